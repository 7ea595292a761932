package line_test

import (
	"fmt"
	"math/rand/v2"
	"slices"
	"testing"

	"spile/api"
	"spile/line"
)

// bores returns choices of size, price, size, price ..
func bores(n ...int) []api.Bore {
	var l []api.Bore
	for i := 0; i+1 < len(n); i += 2 {
		l = append(l, api.Bore{Size: n[i], Price: n[i+1]})
	}
	return l
}

// lists yields all lists of so many choices, in ascending order.
func lists(choices, pipes int) func(yield func([]int) bool) {
	return func(yield func([]int) bool) {
		l := make([]int, pipes)
		for yield(slices.Clone(l)) {
			i := pipes - 1
			for ; i >= 0 && l[i] == choices-1; i-- {
				l[i] = 0
			}
			if i < 0 {
				return
			}
			l[i]++
		}
	}
}

// cheapest tries all lists; it also returns how many of those that are enough cost as much.
func cheapest(n api.Net, flows []api.Range, choices []api.Bore, need int) (best []int, cost, equals int) {
	for l := range lists(len(choices), len(n.Pipes)-1) {
		vacuum := trueVacuum(withBores(n, choices, l), highs(flows), nil)
		few := func(node int) bool { return n.Pipes[node].Taps > 0 && vacuum[node] < need }
		if slices.ContainsFunc(numbers(0, len(n.Pipes)-1), few) {
			continue
		}
		switch c := costOf(n, choices, l); {
		case equals == 0 || c < cost:
			best, cost, equals = l, c, 1
		case c == cost:
			equals++
		}
	}
	return best, cost, equals
}

// checkPlan reports what Plan returns if it is not what is wanted.
func checkPlan(t *testing.T, what string, n api.Net, flows []api.Range, choices []api.Bore, need int, want []int, cost int, wantErr api.Errno) {
	t.Helper()
	l, c, e := line.Plan(n, flows, choices, need)
	sameList(t, what, append(l, c), e, append(slices.Clone(want), cost), wantErr)
}

// even returns tubing whose pipes are as long as can be, with taps at each node, and flows: with the bore 10 a pipe loses 10 for each node whose sap flows through it.
func even(pump int, parents ...int) (api.Net, []api.Range) {
	n := net(pump)
	flows := just(0)
	for _, parent := range parents {
		n.Pipes = append(n.Pipes, pipe(parent, 100000, 10, 0, 1))
		flows = append(flows, one(100))
	}
	return n, flows
}

func TestP3_8Plan(t *testing.T) {
	// With the bore 10 such a pipe loses 10, with 20 it loses 3 (2.5), with 40 it loses 1 (0.6).
	single, one100 := even(1000, 0)
	dry := net(1000, pipe(0, 100000, 10, 0, 0))
	chain, chain100 := even(1000, 0, 1)
	fork, fork100 := even(1000, 0, 0)
	sizes := bores(10, 1, 20, 2, 40, 5)
	for i, c := range []struct {
		n       api.Net
		flows   []api.Range
		choices []api.Bore
		need    int
		want    []int
		cost    int
		e       api.Errno
	}{
		{net(5), just(0), bores(4, 0), 10000, nil, 0, api.OK},
		{net(0), just(api.MaxFlow), bores(80, 1000), 0, nil, 0, api.OK},
		// Just what is needed, and one more.
		{single, one100, sizes, 0, []int{0}, 100000, api.OK},
		{single, one100, sizes, 990, []int{0}, 100000, api.OK},
		{single, one100, sizes, 991, []int{1}, 200000, api.OK},
		{single, one100, sizes, 997, []int{1}, 200000, api.OK},
		{single, one100, sizes, 998, []int{2}, 500000, api.OK},
		{single, one100, sizes, 999, []int{2}, 500000, api.OK},
		{single, one100, sizes, 1000, nil, 0, api.ErrNone},
		{single, one100, sizes, 10000, nil, 0, api.ErrNone},
		{single, just(0, 0), sizes, 1000, []int{0}, 100000, api.OK},
		{single, just(0, 0), sizes, 1001, nil, 0, api.ErrNone},
		// The greatest flow decides, for what comes in at the pump it does not matter.
		{single, set(one(0), r(0, 100)), sizes, 997, []int{1}, 200000, api.OK},
		{single, just(api.MaxFlow, 100), sizes, 997, []int{1}, 200000, api.OK},
		// A node without taps needs nothing.
		{dry, one100, sizes, 10000, []int{0}, 100000, api.OK},
		{net(1000, dry.Pipes[1], pipe(1, 1, 80, 0, 1)), just(0, 100, 0), sizes, 991, []int{1, 0}, 200001, api.OK},
		{net(1000, single.Pipes[1], pipe(1, 100000, 80, 0, 0)), just(0, 0, 100), sizes, 991, []int{1, 0}, 300000, api.OK},
		// Of several that cost as much the smallest list.
		{single, one100, bores(20, 2, 20, 2), 990, []int{0}, 200000, api.OK},
		{single, one100, bores(20, 2, 10, 2), 990, []int{0}, 200000, api.OK},
		{single, one100, bores(10, 2, 20, 2), 991, []int{1}, 200000, api.OK},
		{single, one100, bores(20, 3, 20, 2), 990, []int{1}, 200000, api.OK},
		{single, one100, bores(20, 2, 10, 1), 0, []int{1}, 100000, api.OK},
		{single, one100, bores(4, 0, 4, 0), 0, []int{0}, 0, api.OK},
		{fork, fork100, sizes, 991, []int{1, 1}, 400000, api.OK},
		// In a chain the first pipe loses twice as much: 20, 5 or 2.
		{chain, chain100, sizes, 970, []int{0, 0}, 200000, api.OK},
		{chain, chain100, sizes, 971, []int{0, 1}, 300000, api.OK},
		{chain, chain100, sizes, 977, []int{0, 1}, 300000, api.OK},
		{chain, chain100, sizes, 978, []int{1, 0}, 300000, api.OK},
		{chain, chain100, sizes, 985, []int{1, 0}, 300000, api.OK},
		{chain, chain100, sizes, 986, []int{1, 1}, 400000, api.OK},
		{chain, chain100, sizes, 997, []int{2, 2}, 1000000, api.OK},
		{chain, chain100, sizes, 998, nil, 0, api.ErrNone},
		// Either pipe of a chain that carries what only its end gets can be the wide one.
		{chain, just(0, 0, 100), bores(10, 1, 20, 2), 987, []int{0, 1}, 300000, api.OK},
		{chain, just(0, 0, 100), bores(20, 2, 10, 1), 987, []int{0, 1}, 300000, api.OK},
		// A need of 0 is met even where nothing is left; a need of 1 is not.
		{net(5, pipe(0, 100000, 4, -10000, 1)), just(0, api.MaxFlow), bores(4, 7, 80, 9), 0, []int{0}, 700000, api.OK},
		{net(5, pipe(0, 100000, 4, -10000, 1)), just(0, api.MaxFlow), bores(4, 7, 80, 9), 1, nil, 0, api.ErrNone},
		{net(0, pipe(0, 1, 4, 0, 1)), just(0, 0), bores(4, 7), 1, nil, 0, api.ErrNone},
		{net(0, pipe(0, 1, 4, 0, 1)), just(0, 0), bores(4, 7), 0, []int{0}, 7, api.OK},
		// A climb costs vacuum whatever the bore is; the bores that the tubing had do not matter.
		{net(1000, pipe(0, 100000, 4, -1, 1)), one100, sizes, 987, []int{1}, 200000, api.OK},
		{net(1000, pipe(0, 100000, 80, -1, 1)), one100, sizes, 980, []int{0}, 100000, api.OK},
		// The limits of prices and lengths.
		{star(60), zeros(star(60)), bores(80, 1000, 4, 1000), 10000, make([]int, 59), 59000, api.OK},
		{single, one100, bores(4, 1000, 5, 1000, 6, 1000, 7, 1000, 8, 1000, 9, 1000), 0, []int{0}, 100000000, api.OK},
	} {
		checkPlan(t, fmt.Sprint("Plan ", i), c.n, c.flows, c.choices, c.need, c.want, c.cost, c.e)
	}
}

func TestP3_8PlanErrors(t *testing.T) {
	six := bores(4, 0, 80, 1000, 8, 1, 10, 2, 20, 3, 30, 4)
	for i, c := range []struct {
		choices []api.Bore
		need    int
		want    api.Errno
	}{
		{append(bores(8, 1), six...), 0, api.ErrLong},
		{make([]api.Bore, 7), -1, api.ErrLong},
		{make([]api.Bore, 1000), 0, api.ErrLong},
		{nil, 0, api.ErrArg},
		{[]api.Bore{}, -1, api.ErrArg},
		{make([]api.Bore, 6), -1, api.ErrArg},
		{bores(3, 1), 0, api.ErrArg},
		{bores(81, 1), 10001, api.ErrArg},
		{bores(8, -1), 0, api.ErrArg},
		{bores(8, 1001), 0, api.ErrArg},
		{append(six[:5:5], bores(8, 1001)...), 0, api.ErrArg},
		{append(bores(3, 0), six[:5]...), 0, api.ErrArg},
		{bores(low, high), 0, api.ErrArg},
		{bores(high, low), 0, api.ErrArg},
		{six, -1, api.ErrRange},
		{six, 10001, api.ErrRange},
		{six, low, api.ErrRange},
		{six, high, api.ErrRange},
		{bores(4, 0), 8001, api.ErrNone},
		{bores(4, 0), 10000, api.ErrNone},
		{six, 10000, api.ErrNone},
		{six, 7699, api.ErrNone},
	} {
		checkPlan(t, fmt.Sprint("Plan ", i), bush(), bushFlows(), c.choices, c.need, nil, 0, c.want)
		if c.want != api.ErrNone {
			checkPlan(t, fmt.Sprint("Plan of the pump alone ", i), net(5), just(0), c.choices, c.need, nil, 0, c.want)
		}
	}
	if _, _, e := line.Plan(bush(), bushFlows(), six, 7698); e != api.OK {
		t.Error("Plan with six choices", e)
	}
}

// anyPlan returns what Plan is asked: tubing in which not every list is enough.
func anyPlan(d *rand.Rand, pipes int) (api.Net, []api.Range, []api.Bore, int) {
	n := net(pick(d, 50, 500))
	for i := range pipes {
		n.Pipes = append(n.Pipes, pipe(pick(d, max(0, i-2), i), pick(d, 1, 4)*10000, 4, max(-1, pick(d, -9, 9)), max(0, pick(d, -1, 2))))
	}
	var flows []api.Range
	for range n.Pipes {
		flows = append(flows, r(0, pick(d, 0, 200)))
	}
	var choices []api.Bore
	for range pick(d, 1, 4) {
		choices = append(choices, api.Bore{Size: pick(d, 4, 20), Price: pick(d, 0, 3)})
	}
	return n, flows, choices, pick(d, 0, n.Pump)
}

func TestP3_8AllLists(t *testing.T) {
	d := dice()
	found := map[string]int{}
	for range 1500 {
		n, flows, choices, need := anyPlan(d, pick(d, 0, 4))
		best, cost, equals := cheapest(n, flows, choices, need)
		e := api.OK
		if equals == 0 {
			e = api.ErrNone
			found["none"]++
		}
		if equals > 1 {
			found["equal"]++
		}
		if slices.ContainsFunc(best, func(number int) bool { return number > 0 }) {
			found["later"]++
		}
		checkPlan(t, fmt.Sprint("Plan of ", n, flows, choices, need), n, flows, choices, need, best, cost, e)
	}
	if found["none"] < 50 || found["equal"] < 50 || found["later"] < 50 {
		t.Error("too few of a sort", found)
	}
}

// TestP3_8Large plans tubing of 60 nodes, of which nobody can try all lists.
func TestP3_8Large(t *testing.T) {
	for name, parent := range map[string]func(i int) int{
		"chain": func(i int) int { return i - 1 },
		"tree":  func(i int) int { return i / 2 },
		"brush": func(i int) int { return min(i-1, 30) },
		"star":  func(i int) int { return 0 },
	} {
		n := net(10000)
		for i := 1; i < api.MaxNodes; i++ {
			n.Pipes = append(n.Pipes, pipe(parent(i), 1000+137*i, 4, i%3*100, 1))
		}
		flows := slices.Repeat(set(r(0, 2000)), api.MaxNodes)
		choices := bores(7, 25, 9, 37, 12, 59, 15, 78, 19, 97, 40, 500)
		for _, need := range []int{0, 1, 4000, 9000} {
			l, cost, e := line.Plan(n, flows, choices, need)
			if e != api.OK || cost != costOf(n, choices, l) || !enough(withBores(n, choices, l), flows, need) {
				t.Error(name, need, l, cost, e)
			}
		}
	}
}
