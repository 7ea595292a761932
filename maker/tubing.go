package maker

import (
	"slices"

	"spile/api"
	"spile/books"
	"spile/leak"
	"spile/line"
)

// tubing is nets with what comes into their nodes and with their sensors. What leaks let in, and which pipes are frozen, is told where it is asked for.
type tubing struct {
	nets named[api.Watch]
}

// net adds tubing of the pump alone, and load adds that of bytes.
func (k *tubing) net() command {
	var n name
	bare := api.Net{Pipes: []api.Pipe{{Parent: -1}}}
	return command{forms{&n, &bare.Pump}, k.nets.create(&n, func() (api.Watch, answer, api.Errno) {
		return laid(bare, line.Check(bare))
	})}
}

func (k *tubing) load() command {
	var n name
	var b []byte
	return command{forms{&n, &b}, k.nets.create(&n, func() (api.Watch, answer, api.Errno) {
		return laid(books.ReadMap(b))
	})}
}

// laid returns new tubing, and how many nodes it has.
func laid(n api.Net, e api.Errno) (api.Watch, answer, api.Errno) {
	return api.Watch{Net: n, Flows: make([]api.Range, len(n.Pipes))}, number(len(n.Pipes)), e
}

// pipe adds a node with a pipe.
func (k *tubing) pipe() command {
	var n name
	var p api.Pipe
	return command{forms{&n, &p.Parent, &p.Length, &p.Bore, &p.Drop, &p.Taps}, k.nets.with(&n, func(w *api.Watch) (answer, api.Errno) {
		a, e := add(&w.Net.Pipes, api.MaxNodes, func(all []api.Pipe) api.Errno {
			return line.Check(api.Net{Pump: w.Net.Pump, Pipes: all})
		}, p)
		if e == api.OK {
			w.Flows = append(w.Flows, api.Range{})
		}
		return a, e
	})}
}

// flow tells what comes into a node.
func (k *tubing) flow() command {
	var n name
	var node int
	var flow api.Range
	return command{forms{&n, &node, &flow}, k.nets.with(&n, func(w *api.Watch) (answer, api.Errno) {
		if node < 0 || node >= len(w.Flows) {
			return nil, api.ErrNone
		}
		if !lies(flow, api.MaxFlow) {
			return nil, api.ErrArg
		}
		w.Flows[node] = flow
		return fine{}, api.OK
	})}
}

// sensor adds a sensor with what it reads.
func (k *tubing) sensor() command {
	var n name
	var s api.Sensor
	return command{forms{&n, &s.Node, &s.Reading}, k.nets.with(&n, func(w *api.Watch) (answer, api.Errno) {
		there := func(other api.Sensor) bool { return other.Node == s.Node }
		return add(&w.Sensors, api.MaxSensors, func([]api.Sensor) api.Errno {
			switch {
			case s.Node < 0 || s.Node >= len(w.Net.Pipes):
				return api.ErrNone
			case slices.ContainsFunc(w.Sensors, there):
				return api.ErrTwice
			case !lies(s.Reading, api.MaxVacuum):
				return api.ErrArg
			}
			return api.OK
		}, s)
	})}
}

// way tells the way from a node to the pump, and mapped the bytes of tubing.
func (k *tubing) way() command {
	var n name
	var node int
	return command{forms{&n, &node}, k.nets.with(&n, func(w *api.Watch) (answer, api.Errno) {
		return asList(line.Way(w.Net, node))
	})}
}

func (k *tubing) mapped() command {
	var n name
	return command{forms{&n}, k.nets.with(&n, func(w *api.Watch) (answer, api.Errno) {
		return asBytes(books.WriteMap(w.Net))
	})}
}

// flowing tells what follows from the flows, with frozen pipes, for each node.
func (k *tubing) flowing(tell func(api.Net, []api.Range, []int) ([]api.Range, api.Errno)) command {
	var n name
	var frozen []int
	return command{forms{&n, &frozen}, k.nets.with(&n, func(w *api.Watch) (answer, api.Errno) {
		return asRanges(tell(w.Net, w.Flows, frozen))
	})}
}

// places tells where tubing can leak, and next where the next gauge belongs.
func (k *tubing) places() command {
	var n name
	var air, steps int
	return command{forms{&n, &air, &steps}, k.nets.with(&n, func(w *api.Watch) (answer, api.Errno) {
		leaks, nodes, e := leak.Places(leaking(*w, air, steps))
		return several{number(leaks), numbers(nodes)}, e
	})}
}

func (k *tubing) next() command {
	var n name
	var air, steps int
	return command{forms{&n, &air, &steps}, k.nets.with(&n, func(w *api.Watch) (answer, api.Errno) {
		return asPair(leak.Next(leaking(*w, air, steps)))
	})}
}

// leaking returns tubing with what its leaks can let in.
func leaking(w api.Watch, air, steps int) api.Watch {
	w.Air, w.Steps = air, steps
	return w
}

// lies reports whether a range is one from 0 to a limit.
func lies(a api.Range, most int) bool { return 0 <= a.Low && a.Low <= a.High && a.High <= most }
