package leak_test

import (
	"math/rand/v2"
	"slices"
	"testing"

	"spile/api"
	"spile/leak"
	"spile/line"
)

const (
	low  = -1 << 63
	high = 1<<63 - 1
)

// r returns a range, and one returns the range of one number.
func r(low, high int) api.Range { return api.Range{Low: low, High: high} }

func one(n int) api.Range { return r(n, n) }

// just returns ranges of one number each.
func just(n ...int) []api.Range {
	var l []api.Range
	for _, x := range n {
		l = append(l, one(x))
	}
	return l
}

func set(l ...api.Range) []api.Range { return l }

func list(l ...int) []int { return l }

func lists(l ...[]int) [][]int { return l }

func at(node, size int) api.Leak { return api.Leak{Node: node, Size: size} }

func leaks(l ...api.Leak) []api.Leak { return l }

func sensor(node, low, high int) api.Sensor { return api.Sensor{Node: node, Reading: r(low, high)} }

func sensors(l ...api.Sensor) []api.Sensor { return l }

func trail(a, b, minutes int) api.Trail { return api.Trail{A: a, B: b, Minutes: minutes} }

func trails(l ...api.Trail) []api.Trail { return l }

func pipe(parent, length, bore, drop, taps int) api.Pipe {
	return api.Pipe{Parent: parent, Length: length, Bore: bore, Drop: drop, Taps: taps}
}

// net returns tubing of a pump and of the pipes of the nodes from 1 on.
func net(pump int, pipes ...api.Pipe) api.Net {
	return api.Net{Pump: pump, Pipes: append([]api.Pipe{{Parent: -1}}, pipes...)}
}

// chain returns tubing of so many nodes, each behind the one before it, in which each pipe loses 1 for 100000 milliliters.
func chain(nodes int) api.Net {
	n := net(10000)
	for i := range nodes - 1 {
		n.Pipes = append(n.Pipes, pipe(i, 40, 20, 0, 0))
	}
	return n
}

// chainWatch returns a watched chain into which nothing comes.
func chainWatch(nodes int, l ...api.Sensor) api.Watch {
	return api.Watch{Net: chain(nodes), Flows: make([]api.Range, nodes), Sensors: l, Air: 100000, Steps: 3}
}

// usual is what is watched in the chapter's examples, with one of their readings.
func usual() api.Watch {
	return api.Watch{
		Net:     net(8000, pipe(0, 1000, 20, 500, 0), pipe(1, 400, 8, -30, 5), pipe(1, 300, 8, 100, 4), pipe(3, 200, 8, 50, 2)),
		Flows:   set(one(0), one(0), r(5000, 6000), one(4000), one(2000)),
		Sensors: sensors(sensor(3, 7960, 7970)),
		Air:     100000,
		Steps:   3,
	}
}

// usualWith changes what is watched in the examples.
func usualWith(change func(w *api.Watch)) api.Watch {
	w := usual()
	change(&w)
	return w
}

// reading returns the examples with other sensors.
func reading(l ...api.Sensor) api.Watch { return usualWith(func(w *api.Watch) { w.Sensors = l }) }

// usualTrails are those of the chapter's examples.
func usualTrails() []api.Trail {
	return trails(trail(0, 1, 5), trail(1, 2, 4), trail(1, 3, 6), trail(2, 3, 3))
}

// dice returns numbers that are the same in each run.
func dice() *rand.Rand { return rand.New(rand.NewPCG(1, 13)) }

// pick returns a number from a to b.
func pick(d *rand.Rand, a, b int) int { return a + d.IntN(b-a+1) }

// someOf returns some different numbers below another one, in any order.
func someOf(d *rand.Rand, below, count int) []int { return d.Perm(below)[:min(below, count)] }

// anyNet returns tubing with so many nodes in which much is lost.
func anyNet(d *rand.Rand, nodes int) api.Net {
	n := net(pick(d, 1000, 10000))
	for i := range nodes - 1 {
		n.Pipes = append(n.Pipes, pipe(pick(d, max(0, i-3), i), pick(d, 1, 2000), pick(d, 6, 20), max(-20, pick(d, -200, 100)), 0))
	}
	return n
}

// anyWatch returns watched tubing that has true leaks, and reads what is nearly true.
func anyWatch(d *rand.Rand, nodes int) (w api.Watch, leaking []api.Leak) {
	w = api.Watch{Net: anyNet(d, nodes), Air: pick(d, 1000, 60000), Steps: pick(d, 1, 4)}
	for node := range nodes {
		x := max(0, pick(d, -5000, 20000))
		w.Flows = append(w.Flows, r(x, x+max(0, pick(d, -2000, 2000))))
		if node > 0 && d.IntN(8) == 0 {
			w.Frozen = append(w.Frozen, node)
		}
	}
	leaking = anyLeaks(d, w, min(2, pick(d, 0, 3)))
	vacuum := trueVacuum(w, truth(d, w.Flows), leaking)
	for _, node := range someOf(d, nodes, pick(d, 0, min(nodes, 4))) {
		x := min(api.MaxVacuum, max(0, vacuum[node]+pick(d, -12, 12)*(d.IntN(4)/3)))
		w.Sensors = append(w.Sensors, sensor(node, max(0, x-pick(d, 0, 4)), min(api.MaxVacuum, x+pick(d, 0, 4))))
	}
	return w, leaking
}

// anyLeaks returns so many leaks at different nodes, in any order, as long as there are nodes.
func anyLeaks(d *rand.Rand, w api.Watch, count int) []api.Leak {
	var l []api.Leak
	for _, node := range someOf(d, len(w.Net.Pipes), count) {
		l = append(l, at(node, pick(d, 1, w.Steps)))
	}
	return l
}

// truth returns a number of each flow.
func truth(d *rand.Rand, flows []api.Range) []int {
	var l []int
	for _, f := range flows {
		l = append(l, pick(d, f.Low, f.High))
	}
	return l
}

// arrives reports whether what comes into a node comes to another one.
func arrives(w api.Watch, from, node int) bool {
	for from != node {
		if from == 0 || slices.Contains(w.Frozen, from) {
			return false
		}
		from = w.Net.Pipes[from].Parent
	}
	return true
}

// trueVacuum returns the vacuum at each node if the flows are known, by the definitions.
func trueVacuum(w api.Watch, flows []int, leaks []api.Leak) []int {
	vacuum := list(w.Net.Pump)
	for node := 1; node < len(w.Net.Pipes); node++ {
		p, load := w.Net.Pipes[node], 0
		for from, flow := range flows {
			if arrives(w, from, node) {
				load += flow
			}
		}
		for _, leak := range leaks {
			if arrives(w, leak.Node, node) {
				load += leak.Size * w.Air
			}
		}
		lost := p.Length * load / (10000 * p.Bore * p.Bore)
		if lost*10000*p.Bore*p.Bore < p.Length*load {
			lost++
		}
		if slices.Contains(w.Frozen, node) {
			lost = api.MaxVacuum
		}
		vacuum = append(vacuum, max(0, vacuum[p.Parent]-lost-10*max(0, -p.Drop)))
	}
	return vacuum
}

// vacuumOf returns the vacuum at each node as a range: more flow never leaves more vacuum.
func vacuumOf(w api.Watch, leaks []api.Leak) []api.Range {
	var lows, highs []int
	for _, f := range w.Flows {
		lows, highs = append(lows, f.Low), append(highs, f.High)
	}
	most, least := trueVacuum(w, lows, leaks), trueVacuum(w, highs, leaks)
	var l []api.Range
	for node := range most {
		l = append(l, r(least[node], most[node]))
	}
	return l
}

// agrees reports whether a sensor can read with leaks what it reads.
func agrees(w api.Watch, s api.Sensor, leaks []api.Leak) bool {
	v := vacuumOf(w, leaks)[s.Node]
	return max(v.Low, s.Reading.Low) <= min(v.High, s.Reading.High)
}

// fit reports whether all sensors agree.
func fit(w api.Watch, leaks []api.Leak) bool {
	return !slices.ContainsFunc(w.Sensors, func(s api.Sensor) bool { return !agrees(w, s, leaks) })
}

// listsOf returns all lists of so many numbers from 0 up to below another one, from the smallest list to the greatest.
func listsOf(below, count int) [][]int {
	if count == 0 {
		return lists(nil)
	}
	var all [][]int
	for first := range below {
		for _, l := range listsOf(below, count-1) {
			all = append(all, append(list(first), l...))
		}
	}
	return all
}

// sizesOf returns all lists of sizes of leaks at nodes that fit, in ascending order.
func sizesOf(w api.Watch, nodes []int) [][]int {
	var all [][]int
	for _, sizes := range listsOf(w.Steps, len(nodes)) {
		var l []api.Leak
		for i := range sizes {
			sizes[i]++
			l = append(l, at(nodes[i], sizes[i]))
		}
		if fit(w, l) {
			all = append(all, sizes)
		}
	}
	return all
}

// suspectsOf returns all sets of so many nodes that can leak, in ascending order.
func suspectsOf(w api.Watch, count int) [][]int {
	var all [][]int
	for _, nodes := range listsOf(len(w.Net.Pipes), count) {
		ascending := slices.IsSorted(nodes) && len(slices.Compact(slices.Clone(nodes))) == count
		if ascending && len(sizesOf(w, nodes)) > 0 {
			all = append(all, nodes)
		}
	}
	return all
}

// lineVacuum asks chapter 3 for the vacuum with leaks.
func lineVacuum(t *testing.T, w api.Watch, leaks []api.Leak) []api.Range {
	t.Helper()
	flows := slices.Clone(w.Flows)
	for _, leak := range leaks {
		flows[leak.Node] = r(flows[leak.Node].Low+leak.Size*w.Air, flows[leak.Node].High+leak.Size*w.Air)
	}
	vacuum, e := line.Vacuum(w.Net, flows, w.Frozen)
	if e != api.OK {
		t.Fatal(w, leaks, e)
	}
	return vacuum
}

// same reports what a call returned if it is not what is wanted.
func same[T comparable](t *testing.T, what string, got T, e api.Errno, want T, wantErr api.Errno) {
	t.Helper()
	if got != want || e != wantErr {
		t.Errorf("%s: %v, error %d; want %v, error %d", what, got, e, want, wantErr)
	}
}

// sameList is same for lists, of which nil and empty ones are the same.
func sameList[T comparable](t *testing.T, what string, got []T, e api.Errno, want []T, wantErr api.Errno) {
	t.Helper()
	if !slices.Equal(got, want) || e != wantErr {
		t.Errorf("%s: %v, error %d; want %v, error %d", what, got, e, want, wantErr)
	}
}

// sameLists is same for lists of lists.
func sameLists(t *testing.T, what string, got [][]int, e api.Errno, want [][]int, wantErr api.Errno) {
	t.Helper()
	if !slices.EqualFunc(got, want, slices.Equal) || e != wantErr {
		t.Errorf("%s: %v, error %d; want %v, error %d", what, got, e, want, wantErr)
	}
}

// samePlaces asks Places, and sameNext asks Next.
func samePlaces(t *testing.T, what string, w api.Watch, leaks int, nodes []int, wantErr api.Errno) {
	t.Helper()
	got, all, e := leak.Places(w)
	same(t, "the leaks of Places: "+what, got, e, leaks, wantErr)
	sameList(t, "the nodes of Places: "+what, all, e, nodes, wantErr)
}

func sameNext(t *testing.T, what string, w api.Watch, want [2]int, wantErr api.Errno) {
	t.Helper()
	node, left, e := leak.Next(w)
	same(t, "Next: "+what, [2]int{node, left}, e, want, wantErr)
}

// randomSensors returns a number of a sensor for each size.
func randomSensors(d *rand.Rand, w api.Watch) []int {
	var l []int
	for range w.Steps {
		l = append(l, d.IntN(len(w.Sensors)))
	}
	return l
}
