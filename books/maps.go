package books

import (
	"slices"

	"spile/api"
	"spile/line"
)

const (
	mapMark    = 77                                  // the first byte of a map
	mapHead    = 2                                   // the numbers before those of the pipes
	pipeSize   = 5                                   // the numbers of a pipe
	mapNumbers = mapHead + pipeSize*(api.MaxNodes-1) // the numbers of a map, at most
)

// WriteMap returns the bytes of tubing.
func WriteMap(n api.Net) ([]byte, api.Errno) {
	if line.Check(n) != api.OK {
		return nil, api.ErrArg
	}
	b := append([]byte{mapMark}, written(len(n.Pipes), n.Pump)...)
	for before, p := range n.Pipes[1:] {
		p.Parent = before + 1 - p.Parent
		for _, field := range pipeFields(&p) {
			b = append(b, written(*field)...)
		}
	}
	return append(b, sumBytes(b...)...), api.OK
}

// ReadMap returns the tubing of bytes.
func ReadMap(b []byte) (api.Net, api.Errno) {
	end := len(b) - sumSize
	if end < 1 {
		return api.Net{}, api.ErrEnd
	}
	if !slices.Equal(sumBytes(b[:end]...), b[end:]) {
		return api.Net{}, api.ErrSum
	}
	n := netOf(b[1:end])
	// Tubing has one form alone: if these bytes are written for it, it is theirs.
	if again, e := WriteMap(n); e != api.OK || !slices.Equal(again, b) {
		return api.Net{}, api.ErrForm
	}
	return n, api.OK
}

// netOf returns the tubing that has these bytes behind the first one of its map, if there is any.
func netOf(b []byte) api.Net {
	var l []int
	for n, e := range numbers(b, mapNumbers) {
		if e == api.OK {
			l = append(l, n)
		}
	}
	if len(l) < mapHead {
		return api.Net{}
	}
	net := api.Net{Pump: l[1], Pipes: []api.Pipe{{Parent: -1}}}
	for told := range slices.Chunk(l[mapHead:], pipeSize) {
		var p api.Pipe
		fields := pipeFields(&p)
		for i, n := range told {
			*fields[i] = n
		}
		p.Parent = len(net.Pipes) - p.Parent
		net.Pipes = append(net.Pipes, p)
	}
	return net
}

// pipeFields returns the numbers of a pipe in the order in which they are written.
func pipeFields(p *api.Pipe) [pipeSize]*int {
	return [pipeSize]*int{&p.Parent, &p.Length, &p.Bore, &p.Drop, &p.Taps}
}
