package leak_test

import (
	"fmt"
	"math/rand/v2"
	"slices"
	"testing"

	"spile/api"
	"spile/leak"
)

// samePath asks Path, sameWalk asks Walk, and sameRounds asks Rounds.
func samePath(t *testing.T, nodes int, l []api.Trail, from, to int, way []int, minutes int, wantErr api.Errno) {
	t.Helper()
	what := fmt.Sprint("Path ", nodes, l, from, to)
	got, takes, e := leak.Path(nodes, l, from, to)
	sameList(t, what, got, e, way, wantErr)
	same(t, "the minutes of "+what, takes, e, minutes, wantErr)
}

func sameWalk(t *testing.T, nodes int, l []api.Trail, from int, stops []int, back bool, order []int, minutes int, wantErr api.Errno) {
	t.Helper()
	what := fmt.Sprint("Walk ", nodes, l, from, stops, back)
	got, takes, e := leak.Walk(nodes, l, from, stops, back)
	sameList(t, what, got, e, order, wantErr)
	same(t, "the minutes of "+what, takes, e, minutes, wantErr)
}

func sameRounds(t *testing.T, nodes int, l []api.Trail, starts, stops []int, work int, rounds [][]int, latest int, wantErr api.Errno) {
	t.Helper()
	what := fmt.Sprint("Rounds ", nodes, l, starts, stops, work)
	got, ready, e := leak.Rounds(nodes, l, starts, stops, work)
	sameLists(t, what, got, e, rounds, wantErr)
	same(t, "the latest of "+what, ready, e, latest, wantErr)
}

// anyTrails returns so many trails of few minutes, so that there are many ways of the same minutes.
func anyTrails(d *rand.Rand, nodes, count int) []api.Trail {
	var l []api.Trail
	for range count {
		if nodes > 1 {
			ends := someOf(d, nodes, 2)
			l = append(l, trail(ends[0], ends[1], pick(d, 1, 4)))
		}
	}
	return l
}

// unreached is more than any way takes.
const unreached = 1 << 30

// fewest goes along all trails again and again, until no way is shorter.
func fewest(nodes int, l []api.Trail) [][]int {
	all := make([][]int, nodes)
	for a := range all {
		all[a] = slices.Repeat(list(unreached), nodes)
		all[a][a] = 0
		for shorter := true; shorter; {
			shorter = false
			for _, t := range append(slices.Clone(l), turned(l)...) {
				if x := all[a][t.A] + t.Minutes; x < all[a][t.B] {
					all[a][t.B], shorter = x, true
				}
			}
		}
	}
	return all
}

// turned returns trails the other way round.
func turned(l []api.Trail) []api.Trail {
	var other []api.Trail
	for _, t := range l {
		other = append(other, trail(t.B, t.A, t.Minutes))
	}
	return other
}

// way is nodes, and the minutes that they take.
type way struct {
	nodes   []int
	minutes int
}

// better reports whether a way takes fewer minutes, or as many and is a smaller list.
func (a way) better(b way) bool {
	return a.minutes < b.minutes || a.minutes == b.minutes && slices.Compare(a.nodes, b.nodes) < 0
}

// bestOf returns the best one of ways.
func bestOf(l []way) way {
	best := l[0]
	for _, w := range l {
		if w.better(best) {
			best = w
		}
	}
	return best
}

// waysOf returns all ways to a node on which no node is twice, after a way so far.
func waysOf(l []api.Trail, so way, to int) []way {
	at := so.nodes[len(so.nodes)-1]
	if at == to {
		return []way{so}
	}
	var all []way
	for _, t := range append(slices.Clone(l), turned(l)...) {
		if t.A == at && !slices.Contains(so.nodes, t.B) {
			all = append(all, waysOf(l, way{append(slices.Clone(so.nodes), t.B), so.minutes + t.Minutes}, to)...)
		}
	}
	return all
}

// ordersOf returns all orders of stops.
func ordersOf(stops []int) [][]int {
	if len(stops) == 0 {
		return lists(nil)
	}
	var all [][]int
	for i, stop := range stops {
		for _, rest := range ordersOf(slices.Delete(slices.Clone(stops), i, i+1)) {
			all = append(all, append(list(stop), rest...))
		}
	}
	return all
}

// walkOf tries all orders of stops.
func walkOf(all [][]int, from int, stops []int, back bool) way {
	var walks []way
	for _, order := range ordersOf(stops) {
		w, at := way{nodes: order}, from
		for _, stop := range order {
			w.minutes += all[at][stop]
			at = stop
		}
		if back {
			w.minutes += all[at][from]
		}
		walks = append(walks, w)
	}
	return bestOf(walks)
}

// roundsOf tries all lists of crews.
func roundsOf(all [][]int, starts, stops []int, work int) (rounds [][]int, latest int) {
	latest, walked := unreached, 0
	known := map[string]way{}
	for _, crews := range listsOf(len(starts), len(stops)) {
		var walks []way
		ready, minutes := 0, 0
		for crew, start := range starts {
			var own []int
			for i, stop := range stops {
				if crews[i] == crew {
					own = append(own, stop)
				}
			}
			name := fmt.Sprint(crew, own)
			w, ok := known[name]
			if !ok {
				w = walkOf(all, start, own, false)
				known[name] = w
			}
			walks = append(walks, w)
			ready, minutes = max(ready, w.minutes+work*len(own)), minutes+w.minutes
		}
		if ready < latest || ready == latest && minutes < walked {
			rounds, latest, walked = nil, ready, minutes
			for _, w := range walks {
				rounds = append(rounds, w.nodes)
			}
		}
	}
	return rounds, latest
}

// trailCases are trails that are valid or not.
func trailCases() []struct {
	nodes int
	l     []api.Trail
	want  api.Errno
} {
	many := slices.Repeat(trails(trail(0, 1, 1)), 200)
	return []struct {
		nodes int
		l     []api.Trail
		want  api.Errno
	}{
		{4, usualTrails(), api.OK},
		{1, nil, api.OK},
		{60, nil, api.OK},
		{0, nil, api.ErrArg},
		{-1, nil, api.ErrArg},
		{61, nil, api.ErrArg},
		{low, usualTrails(), api.ErrArg},
		{high, usualTrails(), api.ErrArg},
		{2, many, api.OK},
		{2, append(many, trail(0, 1, 1)), api.ErrLong},
		{0, append(many, trail(0, 1, 1)), api.ErrLong},
		{2, append(many, trail(5, 5, 0)), api.ErrLong},
		{0, many, api.ErrArg},
		{3, usualTrails(), api.ErrArg},
		{4, trails(trail(-1, 1, 1)), api.ErrArg},
		{4, trails(trail(1, -1, 1)), api.ErrArg},
		{4, trails(trail(4, 1, 1)), api.ErrArg},
		{4, trails(trail(1, 4, 1)), api.ErrArg},
		{4, trails(trail(3, 1, 1)), api.OK},
		{4, trails(trail(2, 2, 1)), api.ErrArg},
		{4, trails(trail(0, 0, 1)), api.ErrArg},
		{4, trails(trail(0, 1, 0)), api.ErrArg},
		{4, trails(trail(0, 1, -1)), api.ErrArg},
		{4, trails(trail(0, 1, 10000)), api.OK},
		{4, trails(trail(0, 1, 10001)), api.ErrArg},
		{4, append(usualTrails(), trail(0, 1, 0)), api.ErrArg},
		{4, trails(trail(low, high, low)), api.ErrArg},
		{1, trails(trail(0, 1, 1)), api.ErrArg},
	}
}

func TestP5_6CheckTrails(t *testing.T) {
	for _, c := range trailCases() {
		if e := leak.CheckTrails(c.nodes, c.l); e != c.want {
			t.Error("CheckTrails", c.nodes, c.l, e, c.want)
		}
		if c.want == api.OK {
			continue
		}
		// No other error comes before this one.
		samePath(t, c.nodes, c.l, -1, 70, nil, 0, c.want)
		samePath(t, c.nodes, c.l, 0, 0, nil, 0, c.want)
		sameWalk(t, c.nodes, c.l, -1, make([]int, 9), false, nil, 0, c.want)
		sameWalk(t, c.nodes, c.l, 0, nil, true, nil, 0, c.want)
		sameRounds(t, c.nodes, c.l, make([]int, 4), make([]int, 9), -1, nil, 0, c.want)
		sameRounds(t, c.nodes, c.l, nil, nil, 0, nil, 0, c.want)
	}
}

func TestP5_6Path(t *testing.T) {
	square := trails(trail(0, 1, 1), trail(1, 3, 1), trail(0, 2, 1), trail(2, 3, 1))
	for _, c := range []struct {
		nodes    int
		l        []api.Trail
		from, to int
		way      []int
		minutes  int
		e        api.Errno
	}{
		{4, usualTrails(), 0, 3, list(0, 1, 3), 11, api.OK},
		{4, usualTrails(), 3, 0, list(3, 1, 0), 11, api.OK},
		{4, usualTrails(), 2, 3, list(2, 3), 3, api.OK},
		{4, usualTrails(), 2, 2, list(2), 0, api.OK},
		{1, nil, 0, 0, list(0), 0, api.OK},
		{60, nil, 59, 59, list(59), 0, api.OK},
		{60, nil, 58, 59, nil, 0, api.ErrState},
		{5, usualTrails(), 0, 4, nil, 0, api.ErrState},
		{5, usualTrails(), 4, 0, nil, 0, api.ErrState},
		{4, square, 0, 3, list(0, 1, 3), 2, api.OK},
		{4, square, 3, 0, list(3, 1, 0), 2, api.OK},
		{4, square, 1, 2, list(1, 0, 2), 2, api.OK},
		{4, append(square, trail(3, 0, 2)), 0, 3, list(0, 1, 3), 2, api.OK},
		{4, append(square, trail(3, 0, 1)), 0, 3, list(0, 3), 1, api.OK},
		// The longer list is the smaller one, or the greater one.
		{3, trails(trail(0, 2, 4), trail(0, 1, 2), trail(1, 2, 2)), 0, 2, list(0, 1, 2), 4, api.OK},
		{3, trails(trail(0, 1, 4), trail(0, 2, 2), trail(2, 1, 2)), 0, 1, list(0, 1), 4, api.OK},
		// Several trails between two nodes.
		{2, trails(trail(0, 1, 7), trail(1, 0, 4), trail(0, 1, 9)), 0, 1, list(0, 1), 4, api.OK},
		{2, trails(trail(0, 1, 7), trail(1, 0, 4), trail(0, 1, 9)), 1, 0, list(1, 0), 4, api.OK},
		{3, trails(trail(0, 2, 5), trail(0, 2, 4), trail(0, 1, 2), trail(2, 1, 2), trail(2, 1, 2)), 0, 2, list(0, 1, 2), 4, api.OK},
		{4, usualTrails(), 4, 0, nil, 0, api.ErrNone},
		{4, usualTrails(), 0, 4, nil, 0, api.ErrNone},
		{4, usualTrails(), -1, 0, nil, 0, api.ErrNone},
		{4, usualTrails(), 0, -1, nil, 0, api.ErrNone},
		{4, nil, low, high, nil, 0, api.ErrNone},
		{4, nil, 4, 4, nil, 0, api.ErrNone},
	} {
		samePath(t, c.nodes, c.l, c.from, c.to, c.way, c.minutes, c.e)
	}
}

func TestP5_6PathAnything(t *testing.T) {
	d := dice()
	none, several := 0, 0
	for range 10000 {
		nodes := pick(d, 1, 6)
		l := anyTrails(d, nodes, pick(d, 0, 12))
		from, to := d.IntN(nodes), d.IntN(nodes)
		all := waysOf(l, way{nodes: list(from)}, to)
		if len(all) == 0 {
			none++
			samePath(t, nodes, l, from, to, nil, 0, api.ErrState)
			continue
		}
		best := bestOf(all)
		if slices.ContainsFunc(all, func(w way) bool { return w.minutes == best.minutes && !slices.Equal(w.nodes, best.nodes) }) {
			several++
		}
		samePath(t, nodes, l, from, to, best.nodes, best.minutes, api.OK)
	}
	if none < 300 || several < 300 {
		t.Error("too few that tell something:", none, several)
	}
}

// longTrails leads from each node to the next one, in the most minutes.
func longTrails() []api.Trail {
	var l []api.Trail
	for node := range 59 {
		l = append(l, trail(node+1, node, 10000))
	}
	return l
}

func TestP5_6PathLongest(t *testing.T) {
	var all []int
	for node := range 60 {
		all = append(all, node)
	}
	samePath(t, 60, longTrails(), 0, 59, all, 590000, api.OK)
	sameWalk(t, 60, longTrails(), 0, list(59), true, list(59), 1180000, api.OK)
	sameWalk(t, 60, longTrails(), 30, list(59, 0, 1, 58, 2, 57, 3, 56), false, list(56, 57, 58, 59, 3, 2, 1, 0), 880000, api.OK)
	sameRounds(t, 60, longTrails(), list(0, 0, 0), list(59), 10000, lists(list(59), nil, nil), 600000, api.OK)
}

func TestP5_7Walk(t *testing.T) {
	row := trails(trail(0, 1, 2), trail(1, 2, 2))
	for _, c := range []struct {
		nodes   int
		l       []api.Trail
		from    int
		stops   []int
		back    bool
		order   []int
		minutes int
		e       api.Errno
	}{
		{4, usualTrails(), 0, list(2, 3), false, list(2, 3), 12, api.OK},
		{4, usualTrails(), 0, list(3, 2), false, list(2, 3), 12, api.OK},
		{4, usualTrails(), 0, list(3, 2), true, list(2, 3), 23, api.OK},
		{4, usualTrails(), 3, list(0, 2), false, list(2, 0), 12, api.OK},
		{4, usualTrails(), 3, list(0, 2), true, list(0, 2), 23, api.OK},
		{4, usualTrails(), 0, nil, false, nil, 0, api.OK},
		{4, usualTrails(), 0, nil, true, nil, 0, api.OK},
		{1, nil, 0, list(0), true, list(0), 0, api.OK},
		// The start is among the stops: not back it is the first one, and on a round it can be any one.
		{3, row, 1, list(1), false, list(1), 0, api.OK},
		{3, row, 2, list(1, 2), false, list(2, 1), 2, api.OK},
		{3, row, 2, list(2, 1), true, list(1, 2), 4, api.OK},
		{3, row, 0, list(1, 0), true, list(0, 1), 4, api.OK},
		// From the middle of a row both orders take as long.
		{3, row, 1, list(2, 0), false, list(0, 2), 6, api.OK},
		{3, row, 1, list(2, 0), true, list(0, 2), 8, api.OK},
		{3, row, 0, list(2, 1), false, list(1, 2), 4, api.OK},
		{3, row, 0, list(2), false, list(2), 4, api.OK},
		{4, row, 0, list(2, 3), false, nil, 0, api.ErrState},
		{4, row, 3, list(2), true, nil, 0, api.ErrState},
		{4, row, 3, list(3), true, list(3), 0, api.OK},
		{4, row, 3, nil, true, nil, 0, api.OK},
		{4, row, 4, list(4), true, nil, 0, api.ErrNone},
		{4, row, -1, make([]int, 9), true, nil, 0, api.ErrNone},
		{4, row, 0, make([]int, 9), true, nil, 0, api.ErrLong},
		{9, nil, 0, list(0, 1, 2, 3, 4, 5, 6, 7, 8), true, nil, 0, api.ErrLong},
		{9, nil, 0, list(0, 1, 2, 3, 4, 5, 6, 9, 8), true, nil, 0, api.ErrLong},
		{9, nil, 0, list(0, 1, 2, 3, 4, 5, 6, 7), true, nil, 0, api.ErrState},
		{4, row, 0, list(4), true, nil, 0, api.ErrNone},
		{4, row, 0, list(-1), true, nil, 0, api.ErrNone},
		{4, row, 0, list(0, 4, 4), true, nil, 0, api.ErrNone},
		{4, row, 0, list(3, 1, 3, 4), true, nil, 0, api.ErrTwice},
		{4, row, 0, list(3, 4, 3), true, nil, 0, api.ErrNone},
		{4, row, 0, list(0, 0), false, nil, 0, api.ErrTwice},
		{4, row, low, list(high), false, nil, 0, api.ErrNone},
	} {
		sameWalk(t, c.nodes, c.l, c.from, c.stops, c.back, c.order, c.minutes, c.e)
	}
}

func TestP5_7WalkAnything(t *testing.T) {
	d := dice()
	none, several := 0, 0
	for range 4000 {
		nodes := pick(d, 1, 7)
		l := anyTrails(d, nodes, pick(d, 0, 12))
		from, stops, back := d.IntN(nodes), someOf(d, nodes, pick(d, 0, 5)), d.IntN(2) == 0
		all := fewest(nodes, l)
		best := walkOf(all, from, stops, back)
		if best.minutes >= unreached {
			none++
			sameWalk(t, nodes, l, from, stops, back, nil, 0, api.ErrState)
			continue
		}
		if len(stops) > 1 && slices.Compare(best.nodes, walkOf(all, from, best.nodes[1:], back).nodes) < 0 {
			several++
		}
		sameWalk(t, nodes, l, from, stops, back, best.nodes, best.minutes, api.OK)
	}
	if none < 300 || several < 300 {
		t.Error("too few that tell something:", none, several)
	}
}

func TestP5_7WalkManyStops(t *testing.T) {
	d := dice()
	for range 4 {
		l := anyTrails(d, 60, 200)
		from, stops, back := d.IntN(60), someOf(d, 60, 8), d.IntN(2) == 0
		best := walkOf(fewest(60, l), from, stops, back)
		sameWalk(t, 60, l, from, stops, back, best.nodes, best.minutes, api.OK)
	}
}

func TestP5_8Rounds(t *testing.T) {
	apart := trails(trail(0, 1, 10), trail(2, 3, 1), trail(2, 4, 2))
	fork := trails(trail(0, 1, 5), trail(0, 2, 5))
	for _, c := range []struct {
		nodes         int
		l             []api.Trail
		starts, stops []int
		work          int
		rounds        [][]int
		latest        int
	}{
		{4, usualTrails(), list(0), list(2, 3), 5, lists(list(2, 3)), 22},
		{4, usualTrails(), list(0), list(3, 2), 0, lists(list(2, 3)), 12},
		{4, usualTrails(), list(0, 1), list(3, 2), 5, lists(list(2), list(3)), 14},
		// Two crews at one start: the stops are shared in their order.
		{4, usualTrails(), list(0, 0), list(2, 3), 0, lists(list(2), list(3)), 11},
		{4, usualTrails(), list(0, 0), list(3, 2), 0, lists(list(3), list(2)), 11},
		{3, fork, list(0, 0), list(1, 2), 7, lists(list(1), list(2)), 12},
		{3, fork, list(0, 0), list(2, 1), 7, lists(list(2), list(1)), 12},
		{3, fork, list(1, 2), list(2, 1), 7, lists(list(1), list(2)), 7},
		// More crews than stops, and no stops at all.
		{3, fork, list(0, 0, 0), list(2), 1, lists(list(2), nil, nil), 6},
		{3, fork, list(0, 2, 1), list(2), 1, lists(nil, list(2), nil), 1},
		{3, fork, list(0, 2, 2), list(0, 1, 2), 1, lists(list(1), list(0), list(2)), 6},
		{3, fork, list(0), nil, 10000, lists(nil), 0},
		{3, fork, list(0, 1, 1), nil, 10000, lists(nil, nil, nil), 0},
		{1, nil, list(0), list(0), 10000, lists(list(0)), 10000},
		{1, nil, list(0, 0), list(0), 0, lists(list(0), nil), 0},
		// The crew at 0 takes 10 minutes: of the others, that one goes to 3 that takes fewer minutes.
		{5, apart, list(0, 2, 4), list(1, 3), 0, lists(list(1), list(3), nil), 10},
		{5, apart, list(0, 4, 2), list(1, 3), 0, lists(list(1), nil, list(3)), 10},
		{5, apart, list(0, 2, 2), list(1, 3), 0, lists(list(1), list(3), nil), 10},
		{5, apart, list(2, 0, 4), list(3, 1), 0, lists(list(3), list(1), nil), 10},
		// As the last one is ready in 10 minutes anyway, the others share 3 and 4 by the fewest minutes: 3 of both, and not 4 of one of them.
		{5, apart, list(0, 2, 2), list(1, 3, 4), 0, lists(list(1), list(3), list(4)), 10},
		{5, apart, list(0, 2, 3), list(1, 3, 4), 0, lists(list(1), list(4), list(3)), 10},
		// Stops that one start does not reach.
		{5, apart, list(0, 2), list(3), 4, lists(nil, list(3)), 5},
		{5, apart, list(2, 0), list(3, 1), 4, lists(list(3), list(1)), 14},
		{5, apart, list(2, 0), list(1, 3, 4), 4, lists(list(3, 4), list(1)), 14},
	} {
		sameRounds(t, c.nodes, c.l, c.starts, c.stops, c.work, c.rounds, c.latest, api.OK)
	}
}

func TestP5_8RoundsErrors(t *testing.T) {
	apart := trails(trail(0, 1, 10), trail(2, 3, 1), trail(2, 4, 2))
	nine := make([]int, 9)
	for _, c := range []struct {
		starts, stops []int
		work          int
		want          api.Errno
	}{
		{list(0, 0, 0, 0), nil, 0, api.ErrLong},
		{list(5, 0, 0, 0), nine, -1, api.ErrLong},
		{nil, nil, 0, api.ErrForm},
		{nil, nine, -1, api.ErrForm},
		{list(5), nil, 0, api.ErrNone},
		{list(-1), nil, 0, api.ErrNone},
		{list(0, 0, 5), nine, -1, api.ErrNone},
		{list(0, high), list(1), 0, api.ErrNone},
		{list(0), nine, -1, api.ErrLong},
		{list(0), list(5), -1, api.ErrNone},
		{list(0), list(-1, -1), -1, api.ErrNone},
		{list(0), list(1, 1, 5), -1, api.ErrTwice},
		{list(0), list(3, 5, 3), 10001, api.ErrNone},
		{list(0), list(1), -1, api.ErrRange},
		{list(0), list(1), 10001, api.ErrRange},
		{list(0), nil, 10001, api.ErrRange},
		{list(0), list(3), -1, api.ErrRange},
		{list(0), list(3), high, api.ErrRange},
		{list(0), list(3), 0, api.ErrState},
		{list(0), list(1, 3), 0, api.ErrState},
		{list(0, 1, 0), list(1, 4), 0, api.ErrState},
		{list(0, 2), list(1, 4), 10000, api.OK},
	} {
		rounds, latest := lists(list(1), list(4)), 10010
		if c.want != api.OK {
			rounds, latest = nil, 0
		}
		sameRounds(t, 5, apart, c.starts, c.stops, c.work, rounds, latest, c.want)
	}
}

func TestP5_8RoundsAnything(t *testing.T) {
	d := dice()
	none, busy := 0, 0
	for range 2500 {
		nodes := pick(d, 1, 7)
		l := anyTrails(d, nodes, pick(d, 0, 12))
		stops, work := someOf(d, nodes, pick(d, 0, 4)), pick(d, 0, 4)
		var starts []int
		for range pick(d, 1, 3) {
			starts = append(starts, d.IntN(nodes))
		}
		rounds, latest := roundsOf(fewest(nodes, l), starts, stops, work)
		if rounds == nil {
			none++
			sameRounds(t, nodes, l, starts, stops, work, nil, 0, api.ErrState)
			continue
		}
		if len(rounds) > 1 && len(rounds[0]) > 0 && len(rounds[1]) > 0 {
			busy++
		}
		sameRounds(t, nodes, l, starts, stops, work, rounds, latest, api.OK)
	}
	if none < 200 || busy < 500 {
		t.Error("too few that tell something:", none, busy)
	}
}

func TestP5_8RoundsManyStops(t *testing.T) {
	d := dice()
	l := anyTrails(d, 60, 200)
	stops, starts := someOf(d, 60, 8), someOf(d, 60, 3)
	rounds, latest := roundsOf(fewest(60, l), starts, stops, 3)
	sameRounds(t, 60, l, starts, stops, 3, rounds, latest, api.OK)
}
