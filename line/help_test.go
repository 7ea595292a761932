package line_test

import (
	"math/rand/v2"
	"slices"
	"testing"

	"spile/api"
	"spile/line"
)

const (
	low  = -1 << 63
	high = 1<<63 - 1
)

// r returns a range, and one returns the range of one number.
func r(low, high int) api.Range { return api.Range{Low: low, High: high} }

func one(n int) api.Range { return r(n, n) }

// just returns ranges of one number each.
func just(n ...int) []api.Range {
	var l []api.Range
	for _, x := range n {
		l = append(l, one(x))
	}
	return l
}

func set(l ...api.Range) []api.Range { return l }

func pipe(parent, length, bore, drop, taps int) api.Pipe {
	return api.Pipe{Parent: parent, Length: length, Bore: bore, Drop: drop, Taps: taps}
}

// net returns tubing of a pump and of the pipes of the nodes from 1 on.
func net(pump int, pipes ...api.Pipe) api.Net {
	return api.Net{Pump: pump, Pipes: append([]api.Pipe{{Parent: -1}}, pipes...)}
}

// bush and bushFlows are those of the chapter's examples.
func bush() api.Net {
	return net(8000, pipe(0, 1000, 20, 500, 0), pipe(1, 400, 8, -30, 5), pipe(1, 300, 8, 100, 4), pipe(3, 200, 8, 50, 2))
}

func bushFlows() []api.Range { return set(one(0), one(0), r(5000, 6000), one(4000), one(2000)) }

// bushWith changes what the examples have.
func bushWith(change func(n *api.Net)) api.Net {
	n := bush()
	change(&n)
	return n
}

// chain returns tubing of so many nodes, each behind the one before it; star returns tubing of so many nodes at the pump.
func chain(nodes int) api.Net {
	n := net(10000)
	for i := range nodes - 1 {
		n.Pipes = append(n.Pipes, pipe(i, 1, 80, 0, 1))
	}
	return n
}

func star(nodes int) api.Net {
	return net(10000, slices.Repeat([]api.Pipe{pipe(0, 1, 80, 0, 1)}, nodes-1)...)
}

// zeros returns flows of nothing for all nodes.
func zeros(n api.Net) []api.Range { return make([]api.Range, len(n.Pipes)) }

// dice returns numbers that are the same in each run.
func dice() *rand.Rand { return rand.New(rand.NewPCG(1, 13)) }

// pick returns a number from a to b.
func pick(d *rand.Rand, a, b int) int { return a + d.IntN(b-a+1) }

// anyNet returns tubing with so many nodes in which much is lost.
func anyNet(d *rand.Rand, nodes int) api.Net {
	n := net(pick(d, 0, 3)*1000 + pick(d, 0, 7000))
	for i := range nodes - 1 {
		drop := 0
		if d.IntN(2) == 0 {
			drop = pick(d, -60, 200)
		}
		n.Pipes = append(n.Pipes, pipe(pick(d, max(0, i-4), i), pick(d, 1, 3000), pick(d, 4, 20), drop, max(0, pick(d, -3, 9))))
	}
	return n
}

// anyFlows returns flows for tubing.
func anyFlows(d *rand.Rand, n api.Net) []api.Range {
	var l []api.Range
	for range n.Pipes {
		x := max(0, pick(d, -5000, 20000))
		l = append(l, r(x, x+max(0, pick(d, -4000, 4000))))
	}
	return l
}

// anyFrozen returns nodes whose pipes are frozen, in any order.
func anyFrozen(d *rand.Rand, n api.Net) []int {
	var l []int
	for _, i := range d.Perm(len(n.Pipes)) {
		if i > 0 && d.IntN(6) == 0 {
			l = append(l, i)
		}
	}
	return l
}

// truth returns a number of each flow.
func truth(d *rand.Rand, flows []api.Range) []int {
	var l []int
	for _, f := range flows {
		l = append(l, pick(d, f.Low, f.High))
	}
	return l
}

// lows and highs return the ends of ranges.
func lows(l []api.Range) []int {
	var ends []int
	for _, a := range l {
		ends = append(ends, a.Low)
	}
	return ends
}

func highs(l []api.Range) []int {
	var ends []int
	for _, a := range l {
		ends = append(ends, a.High)
	}
	return ends
}

// wayOf goes from a node to the pump, step by step.
func wayOf(n api.Net, node int) []int {
	if node == 0 {
		return []int{0}
	}
	return append([]int{node}, wayOf(n, n.Pipes[node].Parent)...)
}

// arrives reports whether what comes into a node comes to another one on its way.
func arrives(n api.Net, frozen []int, from, node int) bool {
	for _, at := range wayOf(n, from) {
		if at == node {
			return true
		}
		if slices.Contains(frozen, at) {
			return false
		}
	}
	return false
}

// trueLoads adds for each node what comes into nodes from which it arrives there.
func trueLoads(n api.Net, flows []int, frozen []int) []int {
	l := make([]int, len(n.Pipes))
	for node := range l {
		for from, flow := range flows {
			if arrives(n, frozen, from, node) {
				l[node] += flow
			}
		}
	}
	return l
}

// trueLoss counts what is lost by flowing, up to the first number that is enough, and adds the climb.
func trueLoss(p api.Pipe, flow int) int {
	lost := 0
	for lost*10000*p.Bore*p.Bore < p.Length*flow {
		lost++
	}
	for climbed := 0; climbed > p.Drop; climbed-- {
		lost += 10
	}
	return lost
}

// trueVacuum takes off, for each node, what is lost on its way.
func trueVacuum(n api.Net, flows []int, frozen []int) []int {
	loads := trueLoads(n, flows, frozen)
	var l []int
	for node := range n.Pipes {
		left := n.Pump
		for _, at := range wayOf(n, node) {
			switch {
			case slices.Contains(frozen, at):
				left = low / 2
			case at > 0:
				left -= trueLoss(n.Pipes[at], loads[at])
			}
		}
		l = append(l, max(0, left))
	}
	return l
}

// withBores returns tubing with chosen bores.
func withBores(n api.Net, choices []api.Bore, numbers []int) api.Net {
	n.Pipes = slices.Clone(n.Pipes)
	for i, number := range numbers {
		n.Pipes[i+1].Bore = choices[number].Size
	}
	return n
}

// costOf returns what chosen bores cost.
func costOf(n api.Net, choices []api.Bore, numbers []int) int {
	cost := 0
	for i, number := range numbers {
		cost += n.Pipes[i+1].Length * choices[number].Price
	}
	return cost
}

// enough reports whether each node with taps surely has as much vacuum as is needed, by Vacuum.
func enough(n api.Net, flows []api.Range, need int) bool {
	vacuum, e := line.Vacuum(n, flows, nil)
	for node, v := range vacuum {
		if n.Pipes[node].Taps > 0 && v.Low < need {
			return false
		}
	}
	return e == api.OK
}

// inside reports whether numbers lie in ranges, one in each.
func inside(numbers []int, l []api.Range) bool {
	for i, x := range numbers {
		if x < l[i].Low || x > l[i].High {
			return false
		}
	}
	return len(numbers) == len(l)
}

// same reports what a call returned if it is not what is wanted.
func same[T comparable](t *testing.T, what string, got T, e api.Errno, want T, wantErr api.Errno) {
	t.Helper()
	if got != want || e != wantErr {
		t.Errorf("%s: %v, error %d; want %v, error %d", what, got, e, want, wantErr)
	}
}

// sameList is same for lists, of which nil and empty ones are the same.
func sameList[T comparable](t *testing.T, what string, got []T, e api.Errno, want []T, wantErr api.Errno) {
	t.Helper()
	if !slices.Equal(got, want) || e != wantErr {
		t.Errorf("%s: %v, error %d; want %v, error %d", what, got, e, want, wantErr)
	}
}

// sameNet is same for tubing.
func sameNet(t *testing.T, what string, got api.Net, e api.Errno, want api.Net, wantErr api.Errno) {
	t.Helper()
	if got.Pump != want.Pump || !slices.Equal(got.Pipes, want.Pipes) || e != wantErr {
		t.Errorf("%s: %v, error %d; want %v, error %d", what, got, e, want, wantErr)
	}
}
