package trunk_test

import (
	"fmt"
	"math/rand/v2"
	"reflect"
	"slices"
	"testing"

	"spile/api"
	"spile/trunk"
)

// twenty are spots for as many taps as a year can have.
func twenty(height int) []api.Spot {
	var l []api.Spot
	for i := range api.MaxTaps {
		l = append(l, at(180*i, height))
	}
	return l
}

// withTaps are plain rules with so many taps for each health.
func withTaps(side, apart, n int) api.TapRules {
	l := plain(side, apart)
	l.Healths = [5]int{n, n, n, n, n}
	return l
}

func TestP2_7Keeps(t *testing.T) {
	thick := round()
	thick.Girth = r(3599, 4000)
	old := round(hole(20, 100, 7))
	some := plain(10, 400)
	some.Between = r(7, 9)
	unsure := plain(1, 1)
	unsure.Heal, unsure.Open = r(0, 8), 2
	for i, c := range []struct {
		tree     api.Tree
		rules    api.TapRules
		year     int
		l        []api.Spot
		at, rule int
	}{
		{oldTree(), usual(), 24, nil, -1, 0},
		{oldTree(), usual(), 24, []api.Spot{}, -1, 0},
		{oldTree(), usual(), 24, row(1000, 178), -1, 0},
		{oldTree(), usual(), 24, row(1000, 178, 1359), 1, 4},
		// 1: the height.
		{oldTree(), usual(), 24, row(599, 178), 0, 1},
		{oldTree(), usual(), 24, row(600, 178), -1, 0},
		{oldTree(), usual(), 24, row(1600, 178), -1, 0},
		{oldTree(), usual(), 24, row(1601, 178), 0, 1},
		// 2: the hole, in some truth.
		{oldTree(), usual(), 24, row(1000, 177), 0, 2},
		{oldTree(), usual(), 24, row(1000, 3423), 0, 2},
		{oldTree(), usual(), 24, row(1000, 3422), -1, 0},
		{oldTree(), usual(), 24, row(1299, 0), 0, 2},
		{oldTree(), usual(), 24, row(1300, 0), -1, 0},
		{oldTree(), usual(), 27, row(1000, 0), 0, 2},
		{oldTree(), usual(), 28, row(1000, 0), -1, 0},
		// 3: the taps before it, at any height, both ways around, in each truth.
		{round(), plain(1, 400), 20, row(7, 0, 400), -1, 0},
		{round(), plain(1, 400), 20, row(7, 0, 399), 1, 3},
		{round(), plain(1, 400), 20, row(7, 400, 0), -1, 0},
		{round(), plain(1, 400), 20, row(7, 399, 0), 1, 3},
		{round(), plain(1, 400), 20, row(7, 0, 3200), -1, 0},
		{round(), plain(1, 400), 20, row(7, 0, 3201), 1, 3},
		{round(), plain(1, 400), 20, []api.Spot{at(0, 7), at(10, 4000)}, 1, 3},
		{round(), plain(1, 400), 20, row(7, 0, 1800, 10), 2, 3},
		{round(), plain(1, 400), 20, row(7, 0, 1800, 1810), 2, 3},
		{round(), plain(1, 1), 20, row(7, 5, 5), 1, 3},
		{round(), plain(1, 1), 20, row(7, 5, 6), -1, 0},
		{thick, plain(1, 400), 20, row(7, 0, 400), 1, 3},
		{thick, plain(1, 400), 20, row(7, 0, 401), -1, 0},
		{round(), plain(1, 1801), 20, row(7, 0, 1800), 1, 3},
		// 4: how many the tree may have in each truth.
		{round(), withTaps(1, 1, 0), 20, nil, -1, 0},
		{round(), withTaps(1, 1, 0), 20, row(7, 0), 0, 4},
		{round(), withTaps(1, 1, 2), 20, row(7, 0, 1200), -1, 0},
		{round(), withTaps(1, 1, 2), 20, row(7, 0, 1200, 2400), 2, 4},
		{old, unsure, 20, row(7, 0), -1, 0},
		{old, unsure, 20, row(7, 0, 1200), 1, 4},
		{round(), plain(1, 180), 20, twenty(7), -1, 0},
		{round(), withTaps(1, 180, 19), 20, twenty(7), 19, 4},
		// The first tap with a fault, and the first one of its rules.
		{old, some, 24, row(7, 0, 109), 1, 2},
		{old, some, 24, []api.Spot{at(0, 7), at(109, 10)}, 1, 1},
		{old, some, 24, []api.Spot{at(0, 7), at(109, 9)}, 1, 3},
		{old, withTaps(10, 400, 1), 24, row(7, 0, 109), 1, 2},
		{old, withTaps(10, 400, 1), 24, row(7, 0, 110), 1, 3},
		{old, withTaps(10, 400, 1), 24, row(7, 0, 400, 100), 1, 4},
		{old, withTaps(10, 400, 0), 24, row(7, 1000, 100, 1000), 0, 4},
		{old, some, 24, []api.Spot{at(1000, 7), at(1001, 7), at(100, 7), at(0, 6)}, 1, 3},
		{old, some, 24, []api.Spot{at(1000, 7), at(2000, 6), at(100, 7), at(0, 6)}, 1, 1},
	} {
		at, rule, e := trunk.Keeps(c.tree, c.rules, c.year, c.l)
		same(t, fmt.Sprint("Keeps ", i), [2]int{at, rule}, e, [2]int{c.at, c.rule}, api.OK)
	}
}

// badSpots returns lists that are too long, and lists with a spot that is not on a trunk.
func badSpots() (long, wrong [][]api.Spot) {
	long = [][]api.Spot{slices.Repeat(row(1000, 180), 21), slices.Repeat(row(5001, -1), 21), make([]api.Spot, 1000)}
	for _, s := range []api.Spot{at(-1, 0), at(3600, 0), at(0, -1), at(0, 5001), at(low, high), at(high, low)} {
		wrong = append(wrong, []api.Spot{s}, append(row(5000, 177, 177), s), append(twenty(1000)[:19], s))
	}
	return long, wrong
}

func TestP2_7KeepsErrors(t *testing.T) {
	long, wrong := badSpots()
	for _, l := range long {
		at, rule, e := trunk.Keeps(oldTree(), usual(), 24, l)
		same(t, fmt.Sprint("Keeps of ", l), [2]int{at, rule}, e, [2]int{}, api.ErrLong)
	}
	for _, l := range wrong {
		at, rule, e := trunk.Keeps(oldTree(), usual(), 24, l)
		same(t, fmt.Sprint("Keeps of ", l), [2]int{at, rule}, e, [2]int{}, api.ErrRange)
	}
	for _, c := range []struct {
		tree  api.Tree
		rules api.TapRules
		year  int
		want  api.Errno
	}{{api.Tree{}, usual(), 24, api.ErrArg}, {oldTree(), api.TapRules{}, 24, api.ErrArg}, {oldTree(), usual(), 19, api.ErrRange}} {
		at, rule, e := trunk.Keeps(c.tree, c.rules, c.year, row(1000, 178, 1359))
		same(t, "Keeps", [2]int{at, rule}, e, [2]int{}, c.want)
	}
}

// keptRule returns the first rule that a tap breaks in some truth, 0 if there is none.
func keptRule(t api.Tree, l api.TapRules, year int, before []api.Spot, tap api.Spot) int {
	near := func(b api.Spot) bool {
		return slices.ContainsFunc(girths(t, year), func(girth int) bool {
			return turnBetween(b.Angle, tap.Angle)*girth < api.Turn*l.Apart
		})
	}
	forbids := func(h api.Hole) bool {
		_, forbidden := truths(t, l, year, h, tap)
		return forbidden > 0
	}
	taps, _ := trunk.Taps(t, l, year)
	switch {
	case !has(set(l.Between), tap.Height):
		return 1
	case slices.ContainsFunc(t.Holes, forbids):
		return 2
	case slices.ContainsFunc(before, near):
		return 3
	case len(before) >= taps.Low:
		return 4
	}
	return 0
}

func TestP2_7KeepsInAllTruths(t *testing.T) {
	d := dice()
	found := map[int]int{}
	for range 6000 {
		tree, rules := anyTree(d), anyRules(d)
		year := tree.Year + pick(d, 0, 4)
		var l []api.Spot
		for range pick(d, 0, 4) {
			l = append(l, at(pick(d, 0, api.Turn-1), pick(d, 1000, 1010)))
		}
		want := [2]int{-1, 0}
		for i, tap := range l {
			if rule := keptRule(tree, rules, year, l[:i], tap); rule > 0 {
				want = [2]int{i, rule}
				break
			}
		}
		found[want[1]]++
		at, rule, e := trunk.Keeps(tree, rules, year, l)
		same(t, fmt.Sprint("Keeps of ", tree, rules, year, l), [2]int{at, rule}, e, want, api.OK)
	}
	for rule := range 5 {
		if found[rule] < 20 {
			t.Error("too few lists of taps with the rule", rule, found)
		}
	}
}

func TestP2_8Drill(t *testing.T) {
	full := treeWith(func(t *api.Tree) { t.Holes = slices.Repeat(t.Holes, 40) })
	for i, c := range []struct {
		tree api.Tree
		year int
		l    []api.Spot
	}{
		{oldTree(), 20, nil},
		{oldTree(), 24, row(1000, 178)},
		{oldTree(), 9999, []api.Spot{at(3599, 5000), at(0, 0), at(9, 3)}},
		{round(), 20, row(7, 5)},
		{round(), 20, nil},
		// Rules play no part: a hole at the same spot, and in another one.
		{oldTree(), 20, row(1000, 0, 0, 0)},
		{full, 21, twenty(1000)},
	} {
		want := c.tree
		want.Holes = slices.Clone(c.tree.Holes)
		for _, s := range c.l {
			want.Holes = append(want.Holes, hole(c.year, s.Angle, s.Height))
		}
		got, e := trunk.Drill(c.tree, c.year, c.l)
		if e != api.OK || !sameTree(got, want) {
			t.Error(i, got, e, want)
		}
	}
}

// sameTree reports whether two trees are the same.
func sameTree(a, b api.Tree) bool {
	if !slices.Equal(a.Holes, b.Holes) {
		return false
	}
	a.Holes, b.Holes = nil, nil
	return reflect.DeepEqual(a, b)
}

func TestP2_8DrillErrors(t *testing.T) {
	long, wrong := badSpots()
	holes := func(n int) api.Tree {
		return treeWith(func(t *api.Tree) { t.Holes = slices.Repeat(t.Holes, n) })
	}
	check := func(what string, tree api.Tree, year int, l []api.Spot, want api.Errno) {
		t.Helper()
		got, e := trunk.Drill(tree, year, l)
		same(t, what, sameTree(got, api.Tree{}), e, true, want)
	}
	for _, l := range long {
		check("a long list", holes(60), 20, l, api.ErrLong)
		check("a long list of a tree that is not valid", holes(61), 20, l, api.ErrArg)
		check("a long list in a wrong year", holes(60), 19, l, api.ErrRange)
	}
	for _, l := range wrong {
		check("a wrong spot", holes(60), 20, l, api.ErrRange)
		check("a wrong spot in a wrong year", holes(60), 10000, l, api.ErrRange)
	}
	check("one hole more", holes(60), 20, row(1000, 180), api.ErrFull)
	check("two holes more", holes(59), 20, row(1000, 180, 190), api.ErrFull)
	check("many holes more", holes(41), 20, twenty(1000), api.ErrFull)
	if got, e := trunk.Drill(holes(59), 20, row(1000, 180)); e != api.OK || len(got.Holes) != 60 {
		t.Error("the last hole", got, e)
	}
	if got, e := trunk.Drill(holes(60), 20, nil); e != api.OK || len(got.Holes) != 60 {
		t.Error("no hole more", got, e)
	}
}

// plan returns lists of spots.
func plan(l ...[]api.Spot) [][]api.Spot { return l }

func TestP2_9Rota(t *testing.T) {
	// On a girth of 1200 and of 1205 stains reach 179 to each side, on one of 1210 they reach 178.
	quick := rulesWith(func(l *api.TapRules) { l.Heal = one(1) })
	lasting := withTaps(100, 1, 2)
	lasting.Up = one(10)
	for i, c := range []struct {
		tree     api.Tree
		rules    api.TapRules
		first, n int
		heights  []int
		years    int
		want     [][]api.Spot
	}{
		{oldTree(), usual(), 20, 1, []int{1000, 1300}, 3, plan(row(1000, 180), row(1000, 360), row(1000, 539))},
		{oldTree(), usual(), 20, 1, []int{1300, 1000}, 3, plan(row(1300, 0), row(1300, 180), row(1300, 359))},
		{oldTree(), usual(), 20, 1, []int{500, 1700, 1000}, 1, plan(row(1000, 180))},
		{oldTree(), usual(), 20, 1, []int{1000}, 0, nil},
		{oldTree(), usual(), 9999, 1, []int{1000}, 1, plan(row(1000, 0))},
		{oldTree(), usual(), 9999, 1, nil, 0, nil},
		{oldTree(), quick, 20, 1, []int{1000}, 3, plan(row(1000, 180), row(1000, 0), row(1000, 0))},
		// No taps need no room, but a height.
		{oldTree(), usual(), 20, 0, []int{1000}, 2, plan(nil, nil)},
		{oldTree(), usual(), 20, 0, []int{0}, 2, plan(nil, nil)},
		{oldTree(), usual(), 9960, 0, []int{0}, 40, make([][]api.Spot, 40)},
		// The second height, when the first one has no room.
		{round(), lasting, 20, 2, []int{7, 17}, 3, plan(row(7, 0, 1), row(7, 101, 102), row(7, 202, 203))},
		{round(hole(20, 0, 7), hole(20, 1800, 7)), withTaps(1800, 1, 2), 20, 1, []int{7, 8}, 2, plan(row(8, 0), row(8, 1800))},
		{round(hole(20, 0, 7)), withTaps(1800, 1, 2), 20, 1, []int{7, 8}, 3, plan(row(7, 1800), row(8, 0), row(8, 1800))},
	} {
		got, at, e := trunk.Rota(c.tree, c.rules, c.first, c.n, c.heights, c.years)
		samePlan(t, fmt.Sprint("Rota ", i), got, at, e, c.want, 0, api.OK)
	}
}

func TestP2_9RotaErrors(t *testing.T) {
	fast := plain(1, 1)
	fast.Heal = one(0)
	holes := func(n int) api.Tree {
		return treeWith(func(t *api.Tree) { t.Holes = slices.Repeat(t.Holes, n) })
	}
	some := []int{1000}
	for i, c := range []struct {
		tree     api.Tree
		rules    api.TapRules
		first, n int
		heights  []int
		years    int
		at       int
		want     api.Errno
	}{
		{api.Tree{}, usual(), -1, -1, make([]int, 21), 41, 0, api.ErrArg},
		{oldTree(), api.TapRules{}, -1, -1, make([]int, 21), 41, 0, api.ErrArg},
		{oldTree(), usual(), 19, -1, make([]int, 21), 41, 0, api.ErrRange},
		{oldTree(), usual(), 10000, -1, make([]int, 21), 41, 0, api.ErrRange},
		{oldTree(), usual(), 20, -1, slices.Repeat([]int{-1}, 21), -1, 0, api.ErrLong},
		{oldTree(), usual(), 20, -1, []int{-1}, 41, 0, api.ErrLong},
		{oldTree(), usual(), 9999, 21, nil, high, 0, api.ErrLong},
		{oldTree(), usual(), 20, 1, []int{-1}, 1, 0, api.ErrRange},
		{oldTree(), usual(), 20, 1, []int{1000, 5001}, 1, 0, api.ErrRange},
		{oldTree(), usual(), 20, 1, []int{1000, 5001}, 0, 0, api.ErrRange},
		{oldTree(), usual(), 20, -1, some, 1, 0, api.ErrRange},
		{oldTree(), usual(), 20, 21, some, 1, 0, api.ErrRange},
		{oldTree(), usual(), 20, 21, some, 0, 0, api.ErrRange},
		{oldTree(), usual(), 20, 1, some, -1, 0, api.ErrRange},
		{oldTree(), usual(), 20, 1, some, low, 0, api.ErrRange},
		{oldTree(), usual(), 9999, 1, some, 2, 0, api.ErrRange},
		{oldTree(), usual(), 9961, 0, some, 40, 0, api.ErrRange},
		// No height, or none with room, or a tree that may not have so many.
		{oldTree(), usual(), 20, 0, nil, 1, 0, api.ErrNone},
		{oldTree(), usual(), 20, 1, []int{}, 1, 0, api.ErrNone},
		{oldTree(), usual(), 20, 1, []int{0, 599, 1601, 5000}, 1, 0, api.ErrNone},
		{oldTree(), usual(), 20, 2, []int{1000, 1300}, 1, 0, api.ErrNone},
		{oldTree(), usual(), 20, 20, slices.Repeat(some, 20), 40, 0, api.ErrNone},
		{oldTree(), usual(), 20, 1, []int{1000, 1300}, 5, 4, api.ErrNone},
		{oldTree(), usual(), 20, 1, []int{1000, 1300}, 40, 4, api.ErrNone},
		{round(hole(20, 0, 7)), withTaps(1800, 1, 2), 20, 1, []int{7, 8}, 4, 3, api.ErrNone},
		// More holes than a tree can have: of the last year, too, and only if there is room for its taps.
		{holes(60), fast, 20, 1, some, 1, 0, api.ErrFull},
		{holes(59), fast, 20, 1, some, 2, 1, api.ErrFull},
		{holes(59), fast, 20, 1, some, 40, 1, api.ErrFull},
		{holes(59), fast, 20, 2, some, 1, 0, api.ErrFull},
		{holes(0), fast, 20, 20, some, 4, 3, api.ErrFull},
		{holes(60), fast, 20, 1, nil, 1, 0, api.ErrNone},
		{holes(60), usual(), 20, 1, some, 1, 0, api.ErrNone},
	} {
		got, at, e := trunk.Rota(c.tree, c.rules, c.first, c.n, c.heights, c.years)
		samePlan(t, fmt.Sprint("Rota ", i), got, at, e, nil, c.at, c.want)
	}
	// Three times twenty holes are as many as there can be; with a girth of 1200 to 1210 two taps that are apart have 3 between them.
	var year []api.Spot
	for i := range 20 {
		year = append(year, at(3*i, 1000))
	}
	for n := range 4 {
		got, at, e := trunk.Rota(holes(0), fast, 20, 20, slices.Repeat(some, 20), n)
		samePlan(t, fmt.Sprint("Rota of years ", n), got, at, e, slices.Repeat(plan(year), n), 0, api.OK)
	}
}

// rotaByCalls is Rota by the calls that the chapter names.
func rotaByCalls(t api.Tree, l api.TapRules, first, n int, heights []int, years int) ([][]api.Spot, int, api.Errno) {
	var plan [][]api.Spot
	for i := range years {
		var found []api.Spot
		ok := false
		for _, height := range heights {
			spots, e := trunk.Spots(t, l, first+i, height, n)
			if e != api.OK {
				continue
			}
			if at, _, _ := trunk.Keeps(t, l, first+i, spots); at == -1 {
				found, ok = spots, true
				break
			}
		}
		if !ok {
			return nil, i, api.ErrNone
		}
		next, e := trunk.Drill(t, first+i, found)
		if e != api.OK {
			return nil, i, e
		}
		t, plan = next, append(plan, found)
	}
	return plan, 0, api.OK
}

// someRota returns what a rota can be asked about.
func someRota(d *rand.Rand) (t api.Tree, l api.TapRules, first, n int, heights []int, years int) {
	t, l = anyTree(d), anyRules(d)
	t.Girth = near(d, 500, 3000, 200, api.MaxGirth)
	l.Side, l.Heal, l.Apart, l.Open = near(d, 5, 100, 9, 200), near(d, 0, 6, 3, 9), pick(d, 10, 300), pick(d, 1, 60)
	l.Sizes, l.Healths = []api.Size{{Girth: pick(d, 1, 900), Taps: pick(d, 1, 9)}}, [5]int{9, 9, 9, 9, 9}
	for range pick(d, 0, 4) {
		heights = append(heights, pick(d, 995, 1012))
	}
	return t, l, t.Year + pick(d, 0, 3), pick(d, 0, 4), heights, pick(d, 0, 25)
}

func TestP2_9RotaByCalls(t *testing.T) {
	d := dice()
	found := map[api.Errno]int{}
	for range 600 {
		tree, rules, first, n, heights, years := someRota(d)
		want, wantAt, wantErr := rotaByCalls(tree, rules, first, n, heights, years)
		found[wantErr]++
		got, at, e := trunk.Rota(tree, rules, first, n, heights, years)
		samePlan(t, fmt.Sprint("Rota of ", tree, rules, first, n, heights, years), got, at, e, want, wantAt, wantErr)
	}
	if found[api.OK] < 50 || found[api.ErrNone] < 50 || found[api.ErrFull] < 5 {
		t.Error("too few of a kind", found)
	}
}

func TestP2_10Verify(t *testing.T) {
	fast := plain(1, 1)
	fast.Heal = one(0)
	holes := func(n int) api.Tree {
		return treeWith(func(t *api.Tree) { t.Holes = slices.Repeat(t.Holes, n) })
	}
	good := row(7, 5)
	for i, c := range []struct {
		tree  api.Tree
		rules api.TapRules
		first int
		plan  [][]api.Spot
		want  [3]int
		e     api.Errno
	}{
		{oldTree(), usual(), 20, nil, noFault, api.OK},
		{oldTree(), usual(), 9999, nil, noFault, api.OK},
		{oldTree(), usual(), 9999, plan(nil), noFault, api.OK},
		{oldTree(), usual(), 9960, make([][]api.Spot, 40), noFault, api.OK},
		{oldTree(), usual(), 20, plan(row(1000, 180), row(1000, 360), row(1000, 539)), noFault, api.OK},
		{oldTree(), usual(), 20, plan(row(1000, 179), row(1000, 360), row(1000, 539)), [3]int{0, 0, 2}, api.OK},
		{oldTree(), usual(), 20, plan(row(1000, 180), row(1000, 359), row(1000, 539)), [3]int{1, 0, 2}, api.OK},
		{oldTree(), usual(), 20, plan(row(1000, 180), row(1000, 360), row(1000, 538)), [3]int{2, 0, 2}, api.OK},
		{oldTree(), usual(), 20, plan(nil, row(1000, 180), nil, row(1000, 1800, 180)), [3]int{3, 1, 2}, api.OK},
		{oldTree(), usual(), 20, plan(nil, row(1000, 180), nil, row(1000, 1800, 900)), [3]int{3, 1, 3}, api.OK},
		{oldTree(), usual(), 20, plan(nil, row(1000, 180), nil, row(1000, 1800, 3000)), [3]int{3, 1, 4}, api.OK},
		{oldTree(), usual(), 20, plan(row(1000, 180), row(599, 360), row(1000, 180)), [3]int{1, 0, 1}, api.OK},
		{oldTree(), usual(), 20, plan(row(1000, 180), row(1000, 0), row(599, 0)), [3]int{1, 0, 2}, api.OK},
		// As many holes as a tree can have, and more.
		{holes(59), fast, 20, plan(good), noFault, api.OK},
		{holes(59), fast, 20, plan(good, nil, nil), noFault, api.OK},
		{holes(60), fast, 20, plan(nil, nil), noFault, api.OK},
		{holes(60), fast, 20, plan(good), [3]int{}, api.ErrFull},
		{holes(59), fast, 20, plan(good, good), [3]int{}, api.ErrFull},
		{holes(59), fast, 20, plan(row(7, 5, 8)), [3]int{}, api.ErrFull},
		{holes(59), fast, 20, plan(good, row(7, 5, 5)), [3]int{1, 1, 3}, api.OK},
		{holes(59), fast, 20, plan(row(7, 5, 5), good), [3]int{0, 1, 3}, api.OK},
		{holes(59), fast, 20, plan(good, good, row(7, 5, 5)), [3]int{}, api.ErrFull},
		{holes(59), fast, 20, plan(good, nil, good), [3]int{}, api.ErrFull},
		{round(), plain(1, 180), 20, plan(twenty(7), twenty(8), twenty(9)), noFault, api.OK},
		{round(), plain(1, 180), 20, plan(twenty(7), twenty(8), twenty(9), row(10, 1)), [3]int{3, 0, 4}, api.OK},
	} {
		year, at, rule, e := trunk.Verify(c.tree, c.rules, c.first, c.plan)
		same(t, fmt.Sprint("Verify ", i), [3]int{year, at, rule}, e, c.want, c.e)
	}
}

func TestP2_10VerifyErrors(t *testing.T) {
	long, wrong := badSpots()
	check := func(what string, tree api.Tree, rules api.TapRules, first int, l [][]api.Spot, want api.Errno) {
		t.Helper()
		year, at, rule, e := trunk.Verify(tree, rules, first, l)
		same(t, what, [3]int{year, at, rule}, e, [3]int{}, want)
	}
	fault := row(0, 0)
	full := treeWith(func(t *api.Tree) { t.Holes = slices.Repeat(t.Holes, 60) })
	for _, l := range long {
		check("a tree", api.Tree{}, api.TapRules{}, -1, plan(l), api.ErrArg)
		check("rules", oldTree(), api.TapRules{}, -1, plan(l), api.ErrArg)
		check("a year", oldTree(), usual(), 10000, plan(l), api.ErrRange)
		check("a long year", oldTree(), usual(), 9999, plan(fault, wrong[0], l), api.ErrLong)
		check("a long year", full, usual(), 20, plan(l), api.ErrLong)
	}
	check("many years", oldTree(), usual(), 9999, slices.Repeat(plan(wrong[0]), 41), api.ErrLong)
	check("many empty years", oldTree(), usual(), 20, make([][]api.Spot, 41), api.ErrLong)
	check("the year after the last one", oldTree(), usual(), 9999, make([][]api.Spot, 2), api.ErrRange)
	check("the year after the last one", oldTree(), usual(), 9961, slices.Repeat(plan(fault), 40), api.ErrRange)
	for _, l := range wrong {
		check("a wrong spot", oldTree(), usual(), 20, plan(fault, fault, l), api.ErrRange)
		check("a wrong spot", oldTree(), usual(), 20, plan(l), api.ErrRange)
		check("a wrong spot", full, plain(1, 1), 20, plan(row(7, 5), l), api.ErrRange)
	}
}

// verifyByCalls is Verify by the calls that the chapter names; the plan is within the limits.
func verifyByCalls(t api.Tree, l api.TapRules, first int, plan [][]api.Spot) ([3]int, api.Errno) {
	for i, taps := range plan {
		if at, rule, _ := trunk.Keeps(t, l, first+i, taps); at != -1 {
			return [3]int{i, at, rule}, api.OK
		}
		next, e := trunk.Drill(t, first+i, taps)
		if e != api.OK {
			return [3]int{}, e
		}
		t = next
	}
	return noFault, api.OK
}

func TestP2_10VerifyByCalls(t *testing.T) {
	d := dice()
	found := map[string]int{}
	for range 600 {
		tree, rules, first, n, heights, years := someRota(d)
		rules.Between = r(0, 5000)
		tree.Holes = append(tree.Holes, slices.Repeat([]api.Hole{hole(0, 0, 0)}, pick(d, 0, 56))...)
		l, _, _ := trunk.Rota(tree, rules, first, n, heights, years)
		if len(l) == 0 {
			l = plan(nil, row(1000, pick(d, 0, 3599)), nil, row(1008, pick(d, 0, 3599), pick(d, 0, 3599)))
		} else {
			tap := at(pick(d, 0, 3599), pick(d, 995, 1010))
			i := pick(d, 0, len(l)-1)
			l[i] = append(l[i], tap)
		}
		want, wantErr := verifyByCalls(tree, rules, first, l)
		found[fmt.Sprint(min(want[0], 1), wantErr)]++
		year, at, rule, e := trunk.Verify(tree, rules, first, l)
		same(t, fmt.Sprint("Verify of ", tree, rules, first, l), [3]int{year, at, rule}, e, want, wantErr)
	}
	for _, kind := range []string{"-1 0", "0 0", "1 0", "0 8"} {
		if found[kind] < 5 {
			t.Error("too few of a kind", found)
		}
	}
}
