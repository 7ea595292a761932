package books_test

import (
	"fmt"
	"testing"

	"spile/api"
	"spile/books"
)

func TestP12_3Maps(t *testing.T) {
	for _, c := range []struct {
		n api.Net
		b []byte
	}{
		{net(8000), octets(77, 2, 128, 125, 193, 79)},
		{bush(), octets(77, 10, 128, 125, 2, 208, 15, 40, 232, 7, 0, 2, 160, 6, 16, 59, 10, 4, 216, 4, 16, 200, 1, 8, 2, 144, 3, 16, 100, 4, 211, 24)},
	} {
		sameWriteMap(t, c.n, c.b, api.OK)
		sameReadMap(t, c.b, c.n, api.OK)
	}
}

// chain returns tubing of so many nodes, each behind the one before it, and star tubing of so many nodes at the pump.
func chain(nodes int) api.Net {
	n := net(10000)
	for i := range nodes - 1 {
		n.Pipes = append(n.Pipes, pipe(i, 100000, 80, -10000, 1000))
	}
	return n
}

func star(nodes int) api.Net { return net(0, times(nodes-1, pipe(0, 1, 4, 10000, 0))...) }

func TestP12_3Nodes(t *testing.T) {
	for nodes := 1; nodes <= 63; nodes++ {
		for _, n := range []api.Net{chain(nodes), star(nodes)} {
			if nodes > 60 {
				sameWriteMap(t, n, nil, api.ErrArg)
				sameReadMap(t, rawMap(n), api.Net{}, api.ErrForm)
				continue
			}
			b, e := books.WriteMap(n)
			if want := rawMap(n); string(b) != string(want) || e != api.OK {
				t.Error("WriteMap of", nodes, "nodes:", b, e, want)
			}
			sameReadMap(t, b, n, api.OK)
		}
	}
}

// TestP12_3Bounds has each number of tubing at its bounds, and one step beyond them.
func TestP12_3Bounds(t *testing.T) {
	for _, c := range []struct {
		what        string
		set         func(n *api.Net, x int)
		least, most int
	}{
		{"Pump", func(n *api.Net, x int) { n.Pump = x }, 0, 10000},
		{"Parent of 1", func(n *api.Net, x int) { n.Pipes[1].Parent = x }, 0, 0},
		{"Parent of 3", func(n *api.Net, x int) { n.Pipes[3].Parent = x }, 0, 2},
		{"Parent of 4", func(n *api.Net, x int) { n.Pipes[4].Parent = x }, 0, 3},
		{"Length", func(n *api.Net, x int) { n.Pipes[2].Length = x }, 1, 100000},
		{"Bore", func(n *api.Net, x int) { n.Pipes[3].Bore = x }, 4, 80},
		{"Drop", func(n *api.Net, x int) { n.Pipes[1].Drop = x }, -10000, 10000},
		{"Taps", func(n *api.Net, x int) { n.Pipes[4].Taps = x }, 0, 1000},
	} {
		for _, x := range list(c.least, c.most, (c.least+c.most)/2) {
			n := bushWith(func(n *api.Net) { c.set(n, x) })
			sameWriteMap(t, n, rawMap(n), api.OK)
			sameReadMap(t, rawMap(n), n, api.OK)
		}
		for _, x := range list(c.least-1, c.most+1, -far/2, far/2) {
			n := bushWith(func(n *api.Net) { c.set(n, x) })
			sameWriteMap(t, n, nil, api.ErrArg)
			sameReadMap(t, rawMap(n), api.Net{}, api.ErrForm)
		}
		for _, x := range list(low, low+1, -far-1, far+1, high) {
			sameWriteMap(t, bushWith(func(n *api.Net) { c.set(n, x) }), nil, api.ErrArg)
		}
	}
}

// TestP12_3NoTubing has tubing that is not valid in other ways: its bytes can not be written.
func TestP12_3NoTubing(t *testing.T) {
	for i, n := range []api.Net{
		{}, {Pump: 5}, {Pipes: []api.Pipe{}}, {Pump: 8000, Pipes: []api.Pipe{{}}}, {Pipes: []api.Pipe{{Parent: -2}}}, {Pipes: []api.Pipe{{Parent: -1, Length: 1}}}, {Pipes: []api.Pipe{{Parent: -1, Bore: 4}}}, {Pipes: []api.Pipe{{Parent: -1, Drop: 1}}}, {Pipes: []api.Pipe{{Parent: -1, Taps: 1}}}, {Pipes: []api.Pipe{pipe(0, 1, 4, 0, 0)}}, {Pipes: times(5000, api.Pipe{Parent: -1})},
	} {
		if b, e := books.WriteMap(n); b != nil || e != api.ErrArg {
			t.Error(i, b, e)
		}
	}
}

// TestP12_3Form has bytes with a right sum that are those of no tubing.
func TestP12_3Form(t *testing.T) {
	whole := joined(octets(77), numbersOf(3, 8000, 1, 1000, 20, 500, 0, 1, 400, 8, -30, 5))
	sameReadMap(t, summed(whole), net(8000, pipe(0, 1000, 20, 500, 0), pipe(1, 400, 8, -30, 5)), api.OK)
	for end := range whole {
		if end > 0 {
			sameReadMap(t, summed(whole[:end]), api.Net{}, api.ErrForm)
		}
	}
	for first := range 256 {
		if first != 77 {
			sameReadMap(t, summed(joined(octets(first), whole[1:])), api.Net{}, api.ErrForm)
		}
	}
	for _, more := range [][]byte{octets(0), octets(1), octets(128), octets(0, 0), whole, summed(whole), numbersOf(1, 100, 8, 0, 0), times(5000, byte(0)), times(1000, byte(255))} {
		sameReadMap(t, summed(joined(whole, more)), api.Net{}, api.ErrForm)
	}
	for _, nodes := range list(-far, -61, -3, -2, -1, 0, 1, 2, 4, 5, 60, 61, 1000, far) {
		sameReadMap(t, summed(joined(octets(77), numbersOf(nodes, 8000, 1, 1000, 20, 500, 0, 1, 400, 8, -30, 5))), api.Net{}, api.ErrForm)
		if nodes != 1 {
			sameReadMap(t, summed(joined(octets(77), numbersOf(nodes, 8000))), api.Net{}, api.ErrForm)
		}
	}
	// Numbers with errors: they do not end, they begin with too many bytes of 128 or more, they end with 0, they are too great.
	for _, wrong := range [][]byte{octets(), octets(128), times(8, byte(128)), octets(128, 0), octets(130, 0), octets(130, 128, 180, 204, 212, 223, 198, 3)} {
		sameReadMap(t, summed(joined(octets(77), wrong)), api.Net{}, api.ErrForm)
		sameReadMap(t, summed(joined(octets(77, 2), wrong)), api.Net{}, api.ErrForm)
		sameReadMap(t, summed(joined(octets(77), wrong, octets(4, 2))), api.Net{}, api.ErrForm)
		sameReadMap(t, summed(joined(whole[:len(whole)-1], wrong)), api.Net{}, api.ErrForm)
	}
}

// TestP12_3Errors has too few bytes, wrong sums, and several errors at once: the one named first is returned.
func TestP12_3Errors(t *testing.T) {
	for _, b := range [][]byte{nil, octets(), octets(77), octets(255), octets(77, 2), octets(255, 255), octets(0, 0)} {
		sameReadMap(t, b, api.Net{}, api.ErrEnd)
	}
	sameReadMap(t, octets(77, 2, 2), api.Net{}, api.ErrSum)
	sameReadMap(t, octets(0, 0, 0), api.Net{}, api.ErrSum)
	sameReadMap(t, octets(0, 80, 249), api.Net{}, api.ErrSum)
	sameReadMap(t, octets(0, 249, 80), api.Net{}, api.ErrForm)
	sameReadMap(t, octets(77, 172, 180), api.Net{}, api.ErrForm)
	right := rawMap(bush())
	for at := range right {
		for _, bit := range list(1, 2, 4, 8, 16, 32, 64, 128) {
			b := joined(right)
			b[at] ^= byte(bit)
			sameReadMap(t, b, api.Net{}, api.ErrSum)
		}
	}
	for end := range right {
		want := api.ErrSum
		if end < 3 {
			want = api.ErrEnd
		}
		sameReadMap(t, right[:end], api.Net{}, want)
	}
	sameReadMap(t, joined(right, octets(1)), api.Net{}, api.ErrSum)
	// The sum of bytes and the first byte of their sum is the other byte, and a zero.
	sameReadMap(t, joined(right, octets(0)), api.Net{}, api.ErrForm)
	exchanged := joined(right[:len(right)-2], octets(int(right[len(right)-1]), int(right[len(right)-2])))
	sameReadMap(t, exchanged, api.Net{}, api.ErrSum)
}

// TestP12_3Definitions compares any tubing, and bytes of tubing of which some numbers are others.
func TestP12_3Definitions(t *testing.T) {
	d := dice()
	seen := map[api.Errno]int{}
	for i := range 3000 {
		n := anyNet(d, pick(d, 1, anyOf(d, 3, 9, 60)))
		b, e := writeMapOf(n)
		sameWriteMap(t, n, b, e)
		sameReadMap(t, b, n, api.OK)
		for range d.IntN(3) {
			p := &n.Pipes[d.IntN(len(n.Pipes))]
			*anyOf(d, &n.Pump, &p.Parent, &p.Length, &p.Bore, &p.Drop, &p.Taps) = anyOf(d, -2, -1, 0, 1, 3, 4, 80, 81, 1000, 1001, anyNumber(d))
		}
		b, e = writeMapOf(n)
		sameWriteMap(t, n, b, e)
		raw := rawMap(n)
		if i%3 == 0 {
			raw[d.IntN(len(raw))] = byte(d.IntN(256))
		}
		if i%4 == 0 {
			raw = summed(raw[:len(raw)-2])
		}
		n, e = readMapOf(raw)
		sameReadMap(t, raw, n, e)
		seen[e]++
	}
	for _, e := range []api.Errno{api.OK, api.ErrSum, api.ErrForm} {
		if seen[e] < 100 {
			t.Error("too few of the error", e, seen)
		}
	}
	for size := range 9 {
		for range 300 {
			b := anyBytes(d, size)
			for _, b := range [][]byte{b, summed(b), summed(joined(octets(77), b)), summed(joined(octets(77, 4), b))} {
				n, e := readMapOf(b)
				sameReadMap(t, b, n, e)
			}
		}
	}
}

// TestP12_3New shows that tubing that is read twice shares no memory.
func TestP12_3New(t *testing.T) {
	b := rawMap(bush())
	one, _ := books.ReadMap(b)
	for i := range one.Pipes {
		one.Pipes[i] = api.Pipe{Parent: -7}
	}
	sameReadMap(t, b, bush(), api.OK)
	if fmt.Sprint(b) != fmt.Sprint(rawMap(bush())) {
		t.Error("the bytes are changed:", b)
	}
}
