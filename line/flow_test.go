package line_test

import (
	"fmt"
	"math/big"
	"slices"
	"testing"

	"spile/api"
	"spile/line"
)

// most is the greatest flow through a pipe.
const most = api.MaxNodes * api.MaxFlow

func TestP3_4Loss(t *testing.T) {
	for _, c := range []struct {
		p          api.Pipe
		flow, want int
	}{
		{pipe(0, 1000, 20, 0, 0), 0, 0},
		// 1000 * 4000 is just 1 * 10000 * 20 * 20.
		{pipe(0, 1000, 20, 0, 0), 4000, 1},
		{pipe(0, 1000, 20, 0, 0), 3999, 1},
		{pipe(0, 1000, 20, 0, 0), 1, 1},
		{pipe(0, 1000, 20, 0, 0), 4001, 2},
		{pipe(0, 1000, 20, 0, 0), 8000, 2},
		{pipe(0, 1000, 20, 0, 0), 8001, 3},
		{pipe(0, 1000, 20, 0, 0), 12000, 3},
		{pipe(0, 1000, 20, 500, 0), 12000, 3},
		{pipe(0, 1000, 20, 10000, 0), 0, 0},
		{pipe(0, 1000, 20, -1, 0), 0, 10},
		{pipe(0, 1000, 20, -1, 0), 12000, 13},
		{pipe(0, 400, 8, -30, 5), 6000, 304},
		{pipe(0, 400, 8, -30, 5), 5000, 304},
		{pipe(0, 1, 80, -10000, 1000), 1, 100001},
		{pipe(60, 100000, 4, -10000, 0), most, 37500000000 + 100000},
		{pipe(60, 100000, 80, 10000, 1000), most, 93750000},
		{pipe(60, 99999, 79, 0, 0), most - 1, 96137478},
	} {
		lost, e := line.Loss(c.p, c.flow)
		same(t, fmt.Sprint("Loss of ", c.p, c.flow), lost, e, c.want, api.OK)
	}
}

func TestP3_4LossRoundedUp(t *testing.T) {
	d := dice()
	whole := 0
	for range 20000 {
		p := pipe(pick(d, 0, 60), pick(d, 1, 100000), pick(d, 4, 80), pick(d, -10000, 10000), pick(d, 0, 1000))
		flow := []int{pick(d, 0, most), pick(d, 0, 100000), p.Bore * p.Bore * 10000 * pick(d, 0, 9)}[d.IntN(3)]
		flow = min(flow, most)
		by := big.NewInt(int64(10000 * p.Bore * p.Bore))
		up, rest := new(big.Int).DivMod(new(big.Int).Mul(big.NewInt(int64(p.Length)), big.NewInt(int64(flow))), by, new(big.Int))
		if rest.Sign() > 0 {
			up.Add(up, big.NewInt(1))
		} else {
			whole++
		}
		lost, e := line.Loss(p, flow)
		same(t, fmt.Sprint("Loss of ", p, flow), lost, e, int(up.Int64())+max(0, -10*p.Drop), api.OK)
	}
	if whole < 1000 {
		t.Error("too few whole numbers", whole)
	}
}

func TestP3_4LossErrors(t *testing.T) {
	good := pipe(1, 400, 8, -30, 5)
	for _, change := range []func(p *api.Pipe){
		func(p *api.Pipe) { *p = api.Pipe{} },
		func(p *api.Pipe) { *p = api.Pipe{Parent: -1} },
		func(p *api.Pipe) { p.Parent = -1 },
		func(p *api.Pipe) { p.Parent = 61 },
		func(p *api.Pipe) { p.Length = 0 },
		func(p *api.Pipe) { p.Length = 100001 },
		func(p *api.Pipe) { p.Bore = 3 },
		func(p *api.Pipe) { p.Bore = 0 },
		func(p *api.Pipe) { p.Bore = 81 },
		func(p *api.Pipe) { p.Drop = -10001 },
		func(p *api.Pipe) { p.Drop = 10001 },
		func(p *api.Pipe) { p.Taps = -1 },
		func(p *api.Pipe) { p.Taps = 1001 },
	} {
		p := good
		change(&p)
		for _, flow := range []int{0, 5000, -1, most + 1} {
			lost, e := line.Loss(p, flow)
			same(t, fmt.Sprint("Loss of ", p, flow), lost, e, 0, api.ErrArg)
		}
	}
	for _, flow := range []int{-1, most + 1, low, high} {
		lost, e := line.Loss(good, flow)
		same(t, fmt.Sprint("Loss of ", flow), lost, e, 0, api.ErrRange)
	}
	for _, parent := range []int{0, 60} {
		good.Parent = parent
		lost, e := line.Loss(good, 6000)
		same(t, fmt.Sprint("Loss with the parent ", parent), lost, e, 304, api.OK)
	}
}

// flowErrors are errors of flows and of frozen pipes, for the tubing of the examples.
func flowErrors() []struct {
	flows  []api.Range
	frozen []int
	want   api.Errno
} {
	long := append(bushFlows(), one(0))
	with := func(node int, f api.Range) []api.Range {
		l := bushFlows()
		l[node] = f
		return l
	}
	return []struct {
		flows  []api.Range
		frozen []int
		want   api.Errno
	}{
		{nil, nil, api.ErrForm},
		{[]api.Range{}, nil, api.ErrForm},
		{bushFlows()[:4], nil, api.ErrForm},
		{long, nil, api.ErrForm},
		{make([]api.Range, 1000), nil, api.ErrForm},
		{just(-1, -1, -1, -1), []int{-1}, api.ErrForm},
		{with(0, r(-1, 0)), nil, api.ErrArg},
		{with(4, r(-1, 0)), nil, api.ErrArg},
		{with(4, r(2001, 2000)), nil, api.ErrArg},
		{with(0, r(0, 1000000001)), nil, api.ErrArg},
		{with(2, one(1000000001)), nil, api.ErrArg},
		{with(2, r(low, high)), nil, api.ErrArg},
		{with(2, r(high, low)), nil, api.ErrArg},
		{with(2, one(-1)), []int{0, 1, 1}, api.ErrArg},
		{with(2, r(0, 1000000000)), nil, api.OK},
		{with(0, one(1000000000)), nil, api.OK},
		{bushFlows(), []int{}, api.OK},
		{bushFlows(), []int{1}, api.OK},
		{bushFlows(), []int{4}, api.OK},
		{bushFlows(), []int{4, 3, 2, 1}, api.OK},
		{bushFlows(), []int{0}, api.ErrNone},
		{bushFlows(), []int{-1}, api.ErrNone},
		{bushFlows(), []int{5}, api.ErrNone},
		{bushFlows(), []int{1, 2, 3, 4, low}, api.ErrNone},
		{bushFlows(), []int{high, 1, 1}, api.ErrNone},
		{bushFlows(), []int{1, 1}, api.ErrTwice},
		{bushFlows(), []int{1, 2, 3, 4, 1}, api.ErrTwice},
		// Pipe by pipe: the first one with an error decides.
		{bushFlows(), []int{1, 1, 0}, api.ErrTwice},
		{bushFlows(), []int{1, 0, 1}, api.ErrNone},
		{bushFlows(), []int{0, 0}, api.ErrNone},
		{bushFlows(), slices.Repeat([]int{1, 2}, 1000), api.ErrTwice},
	}
}

func TestP3_5FlowErrors(t *testing.T) {
	table := []api.Row{{X: 4, Y: 0}, {X: 80, Y: 0}}
	for i, c := range flowErrors() {
		loads, e := line.Loads(bush(), c.flows, c.frozen)
		same(t, fmt.Sprint("Loads ", i), len(loads) > 0, e, c.want == api.OK, c.want)
		vacuum, e := line.Vacuum(bush(), c.flows, c.frozen)
		same(t, fmt.Sprint("Vacuum ", i), len(vacuum) > 0, e, c.want == api.OK, c.want)
		if c.want != api.ErrForm && c.want != api.ErrArg {
			continue
		}
		// The others have the same errors, but no frozen pipes, before those of what else they are told.
		for _, table := range [][]api.Row{table, nil} {
			surely, possibly, e := line.Tight(bush(), c.flows, table)
			sameList(t, fmt.Sprint("Tight ", i), append(surely, possibly...), e, nil, c.want)
		}
		for _, need := range []int{0, -1} {
			bores, cost, e := line.Plan(bush(), c.flows, make([]api.Bore, 7), need)
			sameList(t, fmt.Sprint("Plan ", i), append(bores, cost), e, []int{0}, c.want)
		}
	}
	for _, frozen := range [][]int{{0}, {1}, {-1}} {
		loads, e := line.Loads(net(5), just(3), frozen)
		sameList(t, "a frozen pipe of the pump alone", loads, e, nil, api.ErrNone)
	}
}

func TestP3_5Loads(t *testing.T) {
	full := slices.Repeat(just(api.MaxFlow), 60)
	for i, c := range []struct {
		n      api.Net
		flows  []api.Range
		frozen []int
		want   []api.Range
	}{
		{net(5), just(7), nil, just(7)},
		{net(5), set(r(0, 9)), []int{}, set(r(0, 9))},
		{bush(), bushFlows(), nil, set(r(11000, 12000), r(11000, 12000), r(5000, 6000), one(6000), one(2000))},
		{bush(), zeros(bush()), nil, zeros(bush())},
		{bush(), just(1, 10, 100, 1000, 10000), nil, just(11111, 11110, 100, 11000, 10000)},
		{bush(), just(1, 10, 100, 1000, 10000), []int{}, just(11111, 11110, 100, 11000, 10000)},
		{bush(), just(1, 10, 100, 1000, 10000), []int{1}, just(1, 11110, 100, 11000, 10000)},
		{bush(), just(1, 10, 100, 1000, 10000), []int{3}, just(111, 110, 100, 11000, 10000)},
		{bush(), just(1, 10, 100, 1000, 10000), []int{4}, just(1111, 1110, 100, 1000, 10000)},
		// A frozen pipe behind another one: nothing stands at 3 but what comes in there.
		{bush(), just(1, 10, 100, 1000, 10000), []int{3, 4}, just(111, 110, 100, 1000, 10000)},
		{bush(), just(1, 10, 100, 1000, 10000), []int{4, 1}, just(1, 1110, 100, 1000, 10000)},
		{bush(), just(1, 10, 100, 1000, 10000), []int{2, 4, 3, 1}, just(1, 10, 100, 1000, 10000)},
		{bush(), bushFlows(), []int{3}, set(r(5000, 6000), r(5000, 6000), r(5000, 6000), one(6000), one(2000))},
		{star(60), full, nil, append(just(most), full[1:]...)},
		{star(60), full, []int{59}, append(just(most-api.MaxFlow), full[1:]...)},
	} {
		loads, e := line.Loads(c.n, c.flows, c.frozen)
		sameList(t, fmt.Sprint("Loads ", i), loads, e, c.want, api.OK)
	}
}

// ends returns ranges from one list of numbers to another one.
func ends(lows, highs []int) []api.Range {
	var l []api.Range
	for i := range lows {
		l = append(l, r(lows[i], highs[i]))
	}
	return l
}

func TestP3_5AllLoads(t *testing.T) {
	d := dice()
	for range 1500 {
		n := anyNet(d, pick(d, 1, 12))
		flows, frozen := anyFlows(d, n), anyFrozen(d, n)
		loads, e := line.Loads(n, flows, frozen)
		want := ends(trueLoads(n, lows(flows), frozen), trueLoads(n, highs(flows), frozen))
		sameList(t, fmt.Sprint("Loads of ", n, flows, frozen), loads, e, want, api.OK)
	}
}

func TestP3_6Vacuum(t *testing.T) {
	// Each pipe loses just what flows through it.
	plain := func(pump int, l ...int) api.Net {
		n := net(pump)
		for i, drop := range l {
			n.Pipes = append(n.Pipes, pipe(i, 10000, 4, drop, 0))
		}
		return n
	}
	unit := 16 // milliliters an hour for which such a pipe loses 1
	for i, c := range []struct {
		n      api.Net
		flows  []api.Range
		frozen []int
		want   []api.Range
	}{
		{net(0), just(api.MaxFlow), nil, just(0)},
		{net(10000), just(0), nil, just(10000)},
		{bush(), bushFlows(), nil, set(one(8000), one(7997), one(7693), one(7994), one(7993))},
		{bush(), bushFlows(), []int{3}, set(one(8000), r(7998, 7998), one(7694), one(0), one(0))},
		{bush(), bushFlows(), []int{1}, just(8000, 0, 0, 0, 0)},
		{bush(), bushFlows(), []int{4, 3}, set(one(8000), one(7998), one(7694), one(0), one(0))},
		{bush(), bushFlows(), []int{2}, set(one(8000), one(7998), one(0), one(7995), one(7994))},
		{bush(), zeros(bush()), nil, just(8000, 8000, 7700, 8000, 8000)},
		// With a load there is less vacuum, for each end of it; a whole number, and one just above it.
		{plain(100, 0), just(0, 7*unit), nil, just(100, 93)},
		{plain(100, 0), just(0, 7*unit+1), nil, just(100, 92)},
		{plain(100, 0), set(one(0), r(7*unit, 9*unit)), nil, set(one(100), r(91, 93))},
		{plain(100, 0, 0), set(one(0), r(0, unit), r(3*unit, 4*unit)), nil, set(one(100), r(95, 97), r(91, 94))},
		// It never falls below 0: at one node, at those behind it, at one end of the range.
		{plain(100, 0), just(0, 100*unit), nil, just(100, 0)},
		{plain(100, 0), just(0, 99*unit), nil, just(100, 1)},
		{plain(100, 0), just(0, 100*unit+1), nil, just(100, 0)},
		{plain(100, 0, 0), just(0, 101*unit, 0), nil, just(100, 0, 0)},
		{plain(100, 0, 500), just(0, 101*unit, 0), nil, just(100, 0, 0)},
		{plain(100, 0), set(one(0), r(0, api.MaxFlow)), nil, set(one(100), r(0, 100))},
		{plain(100, 0), set(one(0), r(99*unit, 200*unit)), nil, set(one(100), r(0, 1))},
		// A climb takes vacuum away, a fall gives none back.
		{plain(100, -4), zeros(plain(0, 0)), nil, just(100, 60)},
		{plain(100, -4, 4), zeros(plain(0, 0, 0)), nil, just(100, 60, 60)},
		{plain(100, 4, -4), zeros(plain(0, 0, 0)), nil, just(100, 100, 60)},
		{plain(100, -10), zeros(plain(0, 0)), nil, just(100, 0)},
		{plain(100, -11), zeros(plain(0, 0)), nil, just(100, 0)},
		{plain(100, -9), zeros(plain(0, 0)), nil, just(100, 10)},
		// What a frozen pipe keeps back is lost nowhere else.
		{plain(100, 0, 0), just(0, 10*unit, 20*unit), []int{2}, just(100, 90, 0)},
		{plain(100, 0, 0), just(0, 10*unit, 20*unit), nil, just(100, 70, 50)},
		{plain(0, 0, 0), zeros(plain(0, 0, 0)), nil, just(0, 0, 0)},
	} {
		vacuum, e := line.Vacuum(c.n, c.flows, c.frozen)
		sameList(t, fmt.Sprint("Vacuum ", i), vacuum, e, c.want, api.OK)
	}
}

func TestP3_6AllVacuums(t *testing.T) {
	d := dice()
	none, wide := 0, 0
	for range 1500 {
		n := anyNet(d, pick(d, 1, 9))
		flows, frozen := anyFlows(d, n), anyFrozen(d, n)
		vacuum, e := line.Vacuum(n, flows, frozen)
		want := ends(trueVacuum(n, highs(flows), frozen), trueVacuum(n, lows(flows), frozen))
		sameList(t, fmt.Sprint("Vacuum of ", n, flows, frozen), vacuum, e, want, api.OK)
		for _, v := range want {
			if v.High == 0 {
				none++
			}
			if v.Low < v.High {
				wide++
			}
		}
	}
	if none < 500 || wide < 500 {
		t.Error("too few nodes without vacuum, or with a range of it", none, wide)
	}
}

func TestP3_7Tight(t *testing.T) {
	table := func(n ...int) []api.Row {
		var l []api.Row
		for i := 0; i+1 < len(n); i += 2 {
			l = append(l, api.Row{X: n[i], Y: n[i+1]})
		}
		return l
	}
	two := net(5, pipe(0, 1, 10, 0, 0))
	for i, c := range []struct {
		n                api.Net
		flows            []api.Range
		table            []api.Row
		surely, possibly []int
	}{
		{net(5), just(api.MaxFlow), table(4, 0, 5, 0), nil, nil},
		// Just what the table says is not too much, one more is.
		{two, just(0, 100), table(10, 100, 11, 0), nil, nil},
		{two, just(0, 101), table(10, 100, 11, 0), []int{1}, []int{1}},
		{two, just(0, 100), table(9, 0, 10, 100), nil, nil},
		{two, just(0, 101), table(9, 0, 10, 100), []int{1}, []int{1}},
		{two, set(one(0), r(100, 101)), table(9, 0, 10, 100), nil, []int{1}},
		{two, set(one(0), r(0, 100)), table(9, 0, 10, 100), nil, nil},
		{two, set(one(0), r(101, 200)), table(9, 0, 10, 100), []int{1}, []int{1}},
		// The exact value: at 10 it is 100.5, so that 100 is not more, and 101 is; also where it falls.
		{two, just(0, 100), table(9, 0, 11, 201), nil, nil},
		{two, just(0, 101), table(9, 0, 11, 201), []int{1}, []int{1}},
		{two, set(one(0), r(100, 101)), table(9, 201, 11, 0), nil, []int{1}},
		{two, just(0, 100), table(4, 301, 10, 100, 80, 0), nil, nil},
		{two, just(0, 101), table(4, 301, 10, 100, 80, 0), []int{1}, []int{1}},
		// Values below 0: nothing at all is too much.
		{two, just(0, 0), table(9, -1, 11, 0), []int{1}, []int{1}},
		{two, just(0, 0), table(9, -5, 11, -5), []int{1}, []int{1}},
		{two, just(0, 0), table(9, 0, 11, 0), nil, nil},
		{two, just(0, 0), table(9, 0, 11, 1), nil, nil},
		// The pump has no pipe, whatever comes in there.
		{two, just(api.MaxFlow, 100), table(10, 100, 11, 0), nil, nil},
		{bush(), bushFlows(), table(8, 5500, 20, 11000), []int{3}, []int{1, 2, 3}},
		{bush(), bushFlows(), table(8, 1999, 20, 12000), []int{2, 3, 4}, []int{2, 3, 4}},
		{bush(), bushFlows(), table(8, 6000, 20, 10999), []int{1}, []int{1}},
		{bush(), bushFlows(), table(4, 0, 80, 0), []int{1, 2, 3, 4}, []int{1, 2, 3, 4}},
		{bush(), bushFlows(), table(4, api.MaxRow, 80, api.MaxRow), nil, nil},
		{star(60), slices.Repeat(just(api.MaxFlow), 60), table(80, api.MaxRow-1, 81, 0), numbers(1, 59), numbers(1, 59)},
		{star(60), slices.Repeat(just(api.MaxFlow), 60), table(80, api.MaxRow, 81, 0), nil, nil},
	} {
		surely, possibly, e := line.Tight(c.n, c.flows, c.table)
		sameList(t, fmt.Sprint("surely ", i), surely, e, c.surely, api.OK)
		sameList(t, fmt.Sprint("possibly ", i), possibly, e, c.possibly, api.OK)
	}
}

// numbers returns the numbers from a to b.
func numbers(a, b int) []int {
	var l []int
	for n := a; n <= b; n++ {
		l = append(l, n)
	}
	return l
}

func TestP3_7TightErrors(t *testing.T) {
	good := []api.Row{{X: 8, Y: 5500}, {X: 20, Y: 11000}}
	for i, table := range [][]api.Row{nil, {}, good[:1], {good[1], good[0]}, {good[0], good[0]}, {good[0], {X: 20, Y: api.MaxRow + 1}}, make([]api.Row, 61)} {
		surely, possibly, e := line.Tight(bush(), bushFlows(), table)
		sameList(t, fmt.Sprint("table ", i), append(surely, possibly...), e, nil, api.ErrArg)
		// The pump alone asks the table for nothing, but it has to be valid.
		surely, possibly, e = line.Tight(net(5), just(7), table)
		sameList(t, fmt.Sprint("table of the pump alone ", i), append(surely, possibly...), e, nil, api.ErrArg)
	}
	for i, table := range [][]api.Row{{{X: 9, Y: 0}, {X: 20, Y: 0}}, {{X: 8, Y: 0}, {X: 19, Y: 0}}, {{X: 0, Y: 0}, {X: 7, Y: 0}}, {{X: 21, Y: 0}, {X: 80, Y: 0}}, {{X: 9, Y: 0}, {X: 19, Y: 0}}} {
		surely, possibly, e := line.Tight(bush(), bushFlows(), table)
		sameList(t, fmt.Sprint("table without a bore ", i), append(surely, possibly...), e, nil, api.ErrRange)
		surely, possibly, e = line.Tight(net(5), just(7), table)
		sameList(t, fmt.Sprint("table for the pump alone ", i), append(surely, possibly...), e, nil, api.OK)
	}
}

func TestP3_7AllTables(t *testing.T) {
	d := dice()
	found := map[string]int{}
	for range 2000 {
		n := anyNet(d, pick(d, 1, 8))
		flows := anyFlows(d, n)
		at, a, b := pick(d, 4, 20), pick(d, 0, 30000), pick(d, 0, 30000)
		table := []api.Row{{X: at - 17, Y: a}, {X: at + 17, Y: b}}
		var mustBe, mayBe []int
		for node, p := range n.Pipes {
			if node == 0 {
				continue
			}
			// The value is a + (b - a) * (Bore - first X) / 34, exactly.
			more := func(flow int) bool { return flow*34 > a*34+(b-a)*(p.Bore-at+17) }
			if more(trueLoads(n, lows(flows), nil)[node]) {
				mustBe = append(mustBe, node)
			}
			if more(trueLoads(n, highs(flows), nil)[node]) {
				mayBe = append(mayBe, node)
			}
		}
		surely, possibly, e := line.Tight(n, flows, table)
		sameList(t, fmt.Sprint("surely ", n, flows, table), surely, e, mustBe, api.OK)
		sameList(t, fmt.Sprint("possibly ", n, flows, table), possibly, e, mayBe, api.OK)
		found["surely"] += len(mustBe)
		found["possibly"] += len(mayBe)
	}
	if found["surely"] < 500 || found["possibly"] < found["surely"]+100 {
		t.Error("too few tight pipes", found)
	}
}
