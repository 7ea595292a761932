package trunk_test

import (
	"fmt"
	"slices"
	"testing"

	"spile/api"
	"spile/trunk"
)

// goodTrees are at the limits, badTrees one step beyond one of them.
func goodTrees() map[string]api.Tree {
	return map[string]api.Tree{
		"usual":       oldTree(),
		"least":       {Girth: r(1, 1)},
		"greatest":    {Year: 9999, Girth: one(10000), Grow: one(10000), Health: 4, Holes: slices.Repeat([]api.Hole{hole(9999, 3599, 5000)}, 60)},
		"widest":      treeWith(func(t *api.Tree) { t.Girth, t.Grow = r(1, 10000), r(0, 10000) }),
		"empty holes": treeWith(func(t *api.Tree) { t.Holes = []api.Hole{} }),
		"low hole":    treeWith(func(t *api.Tree) { t.Holes[0] = hole(0, 0, 0) }),
		"later hole":  treeWith(func(t *api.Tree) { t.Holes[0] = hole(21, 0, 0) }),
	}
}

func badTrees() map[string]api.Tree {
	bad := map[string]api.Tree{"zero": {}}
	for name, change := range map[string]func(t *api.Tree){
		"year below 0":       func(t *api.Tree) { t.Year = -1 },
		"year above":         func(t *api.Tree) { t.Year = 10000 },
		"girth turned":       func(t *api.Tree) { t.Girth = r(1201, 1200) },
		"girth 0":            func(t *api.Tree) { t.Girth = r(0, 1200) },
		"girth above":        func(t *api.Tree) { t.Girth = r(1200, 10001) },
		"grow turned":        func(t *api.Tree) { t.Grow = r(6, 5) },
		"grow below 0":       func(t *api.Tree) { t.Grow = r(-1, 5) },
		"grow above":         func(t *api.Tree) { t.Grow = r(0, 10001) },
		"health below 0":     func(t *api.Tree) { t.Health = -1 },
		"health above":       func(t *api.Tree) { t.Health = 5 },
		"holes":              func(t *api.Tree) { t.Holes = slices.Repeat(t.Holes, 61) },
		"hole's year":        func(t *api.Tree) { t.Holes[0].Year = -1 },
		"hole's year above":  func(t *api.Tree) { t.Holes[0].Year = 10000 },
		"hole's angle":       func(t *api.Tree) { t.Holes[0].Spot.Angle = -1 },
		"hole's angle above": func(t *api.Tree) { t.Holes[0].Spot.Angle = 3600 },
		"hole's height":      func(t *api.Tree) { t.Holes[0].Spot.Height = -1 },
		"hole's high height": func(t *api.Tree) { t.Holes[0].Spot.Height = 5001 },
		"last hole":          func(t *api.Tree) { t.Holes = append(t.Holes, hole(20, 3600, 0)) },
	} {
		bad[name] = treeWith(change)
	}
	return bad
}

// sizes returns sizes of girth, taps, girth, taps ..
func sizes(n ...int) []api.Size {
	var l []api.Size
	for i := 0; i+1 < len(n); i += 2 {
		l = append(l, api.Size{Girth: n[i], Taps: n[i+1]})
	}
	return l
}

// manySizes returns so many sizes.
func manySizes(n int) []api.Size {
	var l []api.Size
	for i := range n {
		l = append(l, api.Size{Girth: 100 + i, Taps: i})
	}
	return l
}

// goodRules are at the limits, badRules one step beyond one of them.
func goodRules() map[string]api.TapRules {
	good := map[string]api.TapRules{"usual": usual(), "least": {Apart: 1}}
	for name, change := range map[string]func(l *api.TapRules){
		"greatest": func(l *api.TapRules) {
			*l = api.TapRules{Side: one(5000), Up: one(5000), Heal: one(100), Apart: 5000, Between: one(5000), Sizes: sizes(10000, 20), Healths: [5]int{20, 20, 20, 20, 20}, Open: 60}
		},
		"widest": func(l *api.TapRules) {
			l.Side, l.Up, l.Heal, l.Between = r(0, 5000), r(0, 5000), r(0, 100), r(0, 5000)
		},
		"no sizes":     func(l *api.TapRules) { l.Sizes = []api.Size{} },
		"ten sizes":    func(l *api.TapRules) { l.Sizes = manySizes(10) },
		"least size":   func(l *api.TapRules) { l.Sizes = sizes(1, 0) },
		"same of both": func(l *api.TapRules) { l.Sizes = sizes(1, 2, 2, 2, 3, 4) },
	} {
		good[name] = rulesWith(change)
	}
	return good
}

func badRules() map[string]api.TapRules {
	bad := map[string]api.TapRules{"zero": {}}
	for name, change := range map[string]func(l *api.TapRules){
		"side turned":        func(l *api.TapRules) { l.Side = r(31, 30) },
		"side below 0":       func(l *api.TapRules) { l.Side = r(-1, 30) },
		"side above":         func(l *api.TapRules) { l.Side = r(30, 5001) },
		"up turned":          func(l *api.TapRules) { l.Up = r(31, 30) },
		"up below 0":         func(l *api.TapRules) { l.Up = r(-1, 30) },
		"up above":           func(l *api.TapRules) { l.Up = r(30, 5001) },
		"heal turned":        func(l *api.TapRules) { l.Heal = r(4, 3) },
		"heal below 0":       func(l *api.TapRules) { l.Heal = r(-1, 3) },
		"heal above":         func(l *api.TapRules) { l.Heal = r(3, 101) },
		"apart 0":            func(l *api.TapRules) { l.Apart = 0 },
		"apart above":        func(l *api.TapRules) { l.Apart = 5001 },
		"between turned":     func(l *api.TapRules) { l.Between = r(601, 600) },
		"between below 0":    func(l *api.TapRules) { l.Between = r(-1, 600) },
		"between above":      func(l *api.TapRules) { l.Between = r(600, 5001) },
		"eleven sizes":       func(l *api.TapRules) { l.Sizes = manySizes(11) },
		"size 0":             func(l *api.TapRules) { l.Sizes = sizes(0, 1) },
		"size above":         func(l *api.TapRules) { l.Sizes = sizes(10001, 1) },
		"same sizes":         func(l *api.TapRules) { l.Sizes = sizes(800, 1, 800, 2) },
		"sizes descend":      func(l *api.TapRules) { l.Sizes = sizes(800, 1, 799, 2) },
		"taps below 0":       func(l *api.TapRules) { l.Sizes = sizes(800, -1) },
		"taps above":         func(l *api.TapRules) { l.Sizes = sizes(800, 21) },
		"fewer taps":         func(l *api.TapRules) { l.Sizes = sizes(800, 2, 801, 1) },
		"first health":       func(l *api.TapRules) { l.Healths[0] = -1 },
		"first health above": func(l *api.TapRules) { l.Healths[0] = 21 },
		"last health":        func(l *api.TapRules) { l.Healths[4] = -1 },
		"last health above":  func(l *api.TapRules) { l.Healths[4] = 21 },
		"open below 0":       func(l *api.TapRules) { l.Open = -1 },
		"open above":         func(l *api.TapRules) { l.Open = 61 },
	} {
		bad[name] = rulesWith(change)
	}
	return bad
}

func TestP2_1CheckTree(t *testing.T) {
	for name, c := range goodTrees() {
		if e := trunk.CheckTree(c); e != api.OK {
			t.Error(name, e)
		}
	}
	for name, c := range badTrees() {
		if e := trunk.CheckTree(c); e != api.ErrArg {
			t.Error(name, e)
		}
	}
}

func TestP2_1CheckRules(t *testing.T) {
	for name, c := range goodRules() {
		if e := trunk.CheckRules(c); e != api.OK {
			t.Error(name, e)
		}
	}
	for name, c := range badRules() {
		if e := trunk.CheckRules(c); e != api.ErrArg {
			t.Error(name, e)
		}
	}
}

// errorsOf calls each function with a year; what else it is given is wrong, too, if wrong is.
func errorsOf(t api.Tree, l api.TapRules, year int, wrong bool) map[string]api.Errno {
	n, spots, heights, plan := 1, row(1000, 180), []int{1000}, [][]api.Spot{}
	height, spot := 1000, at(180, 1000)
	if wrong {
		n, height, spot = -1, -1, at(-1, -1)
		spots, heights, plan = slices.Repeat(row(-1, -1), 21), slices.Repeat([]int{-1}, 21), make([][]api.Spot, 41)
	}
	got := map[string]api.Errno{}
	_, got["Girth"] = trunk.Girth(t, year)
	_, got["Taps"] = trunk.Taps(t, l, year)
	_, _, got["Blocks"] = trunk.Blocks(t, l, year, spot)
	_, got["Free"] = trunk.Free(t, l, year, height)
	_, got["Most"] = trunk.Most(t, l, year, height)
	_, got["Spots"] = trunk.Spots(t, l, year, height, n)
	_, _, got["Keeps"] = trunk.Keeps(t, l, year, spots)
	_, got["Drill"] = trunk.Drill(t, year, spots)
	_, _, got["Rota"] = trunk.Rota(t, l, year, n, heights, n)
	_, _, _, got["Verify"] = trunk.Verify(t, l, year, plan)
	return got
}

func TestP2_1ErrorsOfAll(t *testing.T) {
	unruled := []string{"Girth", "Drill"}
	for _, wrong := range []bool{false, true} {
		for name, tree := range badTrees() {
			for f, e := range errorsOf(tree, usual(), 20, wrong) {
				same(t, f+" with the tree "+name, 0, e, 0, api.ErrArg)
			}
			for f, e := range errorsOf(tree, api.TapRules{}, -1, wrong) {
				same(t, f+" with all wrong and the tree "+name, 0, e, 0, api.ErrArg)
			}
		}
		for name, rules := range badRules() {
			for f, e := range errorsOf(oldTree(), rules, 20, wrong) {
				if !slices.Contains(unruled, f) {
					same(t, f+" with the rules "+name, 0, e, 0, api.ErrArg)
				}
			}
			for f, e := range errorsOf(oldTree(), rules, 10000, wrong) {
				want := api.Errno(api.ErrArg)
				if slices.Contains(unruled, f) {
					want = api.ErrRange
				}
				same(t, f+" with the year and the rules "+name, 0, e, 0, want)
			}
		}
		for _, year := range []int{low, -1, 0, 19, 10000, high} {
			for f, e := range errorsOf(oldTree(), usual(), year, wrong) {
				same(t, fmt.Sprint(f, " in the year ", year), 0, e, 0, api.ErrRange)
			}
		}
	}
	for _, year := range []int{20, 21, 9999} {
		for f, e := range errorsOf(oldTree(), usual(), year, false) {
			same(t, fmt.Sprint(f, " in the year ", year), 0, e, 0, api.OK)
		}
	}
}

func TestP2_2Girth(t *testing.T) {
	for i, c := range []struct {
		year, now   int
		girth, grow api.Range
		want        api.Range
	}{
		{20, 20, r(1200, 1260), r(5, 10), r(1200, 1260)},
		{20, 21, r(1200, 1260), r(5, 10), r(1205, 1270)},
		{20, 24, r(1200, 1260), r(5, 10), r(1220, 1300)},
		{0, 9999, r(1, 2), r(0, 1), r(1, 10000)},
		{0, 9998, r(1, 1), one(1), one(9999)},
		{0, 9999, r(1, 1), one(1), one(10000)},
		{0, 9999, r(2, 2), one(1), one(10000)},
		{0, 9999, one(10000), one(10000), one(10000)},
		{20, 21, r(9000, 9500), r(400, 500), r(9400, 10000)},
		{20, 21, r(9000, 9500), r(400, 501), r(9400, 10000)},
		{20, 23, r(9000, 9500), r(400, 500), r(10000, 10000)},
		{9999, 9999, r(7, 10000), r(1, 1), r(7, 10000)},
	} {
		got, e := trunk.Girth(api.Tree{Year: c.year, Girth: c.girth, Grow: c.grow}, c.now)
		same(t, fmt.Sprint("Girth ", i), got, e, c.want, api.OK)
	}
}

func TestP2_3Taps(t *testing.T) {
	thick := func(girth api.Range) api.Tree { return treeWith(func(t *api.Tree) { t.Girth = girth }) }
	holes := func(l ...api.Hole) api.Tree { return treeWith(func(t *api.Tree) { t.Girth, t.Holes = one(1500), l }) }
	for i, c := range []struct {
		tree  api.Tree
		rules api.TapRules
		year  int
		want  api.Range
	}{
		{oldTree(), usual(), 24, r(1, 1)},
		// By size.
		{thick(one(799)), usual(), 20, r(0, 0)},
		{thick(one(800)), usual(), 20, r(1, 1)},
		{thick(one(1499)), usual(), 20, r(1, 1)},
		{thick(one(1500)), usual(), 20, r(2, 2)},
		{thick(r(799, 1500)), usual(), 20, r(0, 2)},
		{thick(r(1400, 1490)), usual(), 21, r(1, 2)},
		{thick(one(1500)), rulesWith(func(l *api.TapRules) { l.Sizes = nil }), 20, r(0, 0)},
		// By health.
		{thick(one(1500)), rulesWith(func(l *api.TapRules) { l.Healths = [5]int{2, 2, 2, 1, 2} }), 20, r(1, 1)},
		{thick(one(1500)), rulesWith(func(l *api.TapRules) { l.Healths = [5]int{0, 0, 0, 9, 0} }), 20, r(2, 2)},
		{treeWith(func(t *api.Tree) { t.Health = 0 }), rulesWith(func(l *api.TapRules) { l.Healths[0] = 0 }), 20, r(0, 0)},
		{treeWith(func(t *api.Tree) { t.Health = 4 }), rulesWith(func(l *api.TapRules) { l.Healths[4] = 0 }), 20, r(0, 0)},
		// By holes that count: for 3 to 8 years.
		{thick(one(1500)), rulesWith(func(l *api.TapRules) { l.Open = 2 }), 22, r(1, 1)},
		{thick(one(1500)), rulesWith(func(l *api.TapRules) { l.Open = 2 }), 23, r(1, 2)},
		{thick(one(1500)), rulesWith(func(l *api.TapRules) { l.Open = 2 }), 27, r(1, 2)},
		{thick(one(1500)), rulesWith(func(l *api.TapRules) { l.Open = 2 }), 28, r(2, 2)},
		{thick(one(1500)), rulesWith(func(l *api.TapRules) { l.Open = 0 }), 27, r(0, 0)},
		{holes(), rulesWith(func(l *api.TapRules) { l.Open = 1 }), 20, r(1, 1)},
		{holes(hole(20, 0, 0), hole(20, 0, 0), hole(20, 9, 5000)), rulesWith(func(l *api.TapRules) { l.Open = 2 }), 20, r(0, 0)},
		{holes(hole(18, 0, 0), hole(17, 0, 0), hole(13, 9, 5000), hole(12, 9, 5000)), rulesWith(func(l *api.TapRules) { l.Open = 3 }), 20, r(0, 2)},
		// A hole of the same year, and of a later one.
		{holes(hole(20, 0, 0)), rulesWith(func(l *api.TapRules) { l.Open, l.Heal = 1, one(0) }), 20, r(1, 1)},
		{holes(hole(20, 0, 0)), rulesWith(func(l *api.TapRules) { l.Open, l.Heal = 1, r(0, 1) }), 20, r(0, 1)},
		{holes(hole(20, 0, 0)), rulesWith(func(l *api.TapRules) { l.Open, l.Heal = 1, one(1) }), 20, r(0, 0)},
		{holes(hole(21, 0, 0)), rulesWith(func(l *api.TapRules) { l.Open, l.Heal = 1, one(0) }), 20, r(0, 0)},
		{holes(hole(9999, 0, 0)), rulesWith(func(l *api.TapRules) { l.Open, l.Heal = 1, one(0) }), 20, r(0, 0)},
	} {
		got, e := trunk.Taps(c.tree, c.rules, c.year)
		same(t, fmt.Sprint("Taps ", i), got, e, c.want, api.OK)
	}
}

// tapsIn returns what a tree may have with so much girth and so many holes that count.
func tapsIn(t api.Tree, l api.TapRules, girth, counting int) int {
	size := 0
	for _, s := range slices.Backward(l.Sizes) {
		if s.Girth <= girth {
			size = s.Taps
			break
		}
	}
	return min(size, l.Healths[t.Health], max(0, l.Open-counting))
}

func TestP2_3TapsInAllTruths(t *testing.T) {
	d := dice()
	for range 3000 {
		tree, rules := anyTree(d), anyRules(d)
		year := tree.Year + pick(d, 0, 4)
		// How many holes can count: one truth after another, hole by hole.
		counts := map[int]bool{0: true}
		for _, h := range tree.Holes {
			next := map[int]bool{}
			for _, heal := range numbers(rules.Heal) {
				for n := range counts {
					if year-h.Year < heal {
						next[n+1] = true
					} else {
						next[n] = true
					}
				}
			}
			counts = next
		}
		want := r(api.MaxTaps, 0)
		for _, girth := range girths(tree, year) {
			for n := range counts {
				taps := tapsIn(tree, rules, girth, n)
				want = r(min(want.Low, taps), max(want.High, taps))
			}
		}
		got, e := trunk.Taps(tree, rules, year)
		same(t, fmt.Sprint("Taps of ", tree, rules, year), got, e, want, api.OK)
	}
}
