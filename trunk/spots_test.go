package trunk_test

import (
	"fmt"
	"math/rand/v2"
	"slices"
	"testing"

	"spile/api"
	"spile/span"
	"spile/trunk"
)

func TestP2_4Blocks(t *testing.T) {
	both := rulesWith(func(l *api.TapRules) { l.Side, l.Up, l.Heal = r(30, 60), r(200, 300), r(3, 8) })
	healed := rulesWith(func(l *api.TapRules) { l.Heal = one(0) })
	for i, c := range []struct {
		holes            []api.Hole
		rules            api.TapRules
		year             int
		spot             api.Spot
		possibly, surely []int
	}{
		{nil, both, 20, at(0, 1000), nil, nil},
		{[]api.Hole{}, both, 20, at(0, 1000), nil, nil},
		{[]api.Hole{hole(20, 0, 1000)}, both, 22, at(80, 1100), []int{0}, []int{0}},
		{[]api.Hole{hole(20, 0, 1000)}, both, 24, at(80, 1100), []int{0}, nil},
		// How long it counts.
		{[]api.Hole{hole(18, 0, 1000), hole(17, 0, 1000), hole(13, 0, 1000), hole(12, 0, 1000), hole(21, 0, 1000)}, both, 20, at(0, 1000), []int{0, 1, 2, 4}, []int{0, 4}},
		{[]api.Hole{hole(20, 0, 1000), hole(21, 0, 1000), hole(19, 0, 1000)}, healed, 20, at(0, 1000), []int{1}, []int{1}},
		// How far up and down it reaches.
		{[]api.Hole{hole(20, 0, 1199), hole(20, 0, 1200), hole(20, 0, 1299), hole(20, 0, 1300)}, both, 20, at(0, 1000), []int{0, 1, 2}, []int{0}},
		{[]api.Hole{hole(20, 0, 801), hole(20, 0, 800), hole(20, 0, 701), hole(20, 0, 700)}, both, 20, at(0, 1000), []int{0, 1, 2}, []int{0}},
		{[]api.Hole{hole(20, 0, 0), hole(20, 0, 5000)}, rulesWith(func(l *api.TapRules) { l.Up = one(5000) }), 20, at(0, 0), []int{0}, []int{0}},
		// How far around: a girth of 1260 and 30 for sure, one of 1200 and 60 possibly: 85 * 1260 < 3600 * 30, and 179 * 1200 < 3600 * 60.
		{[]api.Hole{hole(20, 85, 1000), hole(20, 86, 1000), hole(20, 179, 1000), hole(20, 180, 1000)}, both, 20, at(0, 1000), []int{0, 1, 2}, []int{0}},
		{[]api.Hole{hole(20, 3515, 1000), hole(20, 3514, 1000), hole(20, 3421, 1000), hole(20, 3420, 1000)}, both, 20, at(0, 1000), []int{0, 1, 2}, []int{0}},
		{[]api.Hole{hole(20, 0, 1000), hole(20, 84, 1000), hole(20, 85, 1000), hole(20, 178, 1000), hole(20, 179, 1000)}, both, 20, at(3599, 1000), []int{0, 1, 2, 3}, []int{0, 1}},
		{[]api.Hole{hole(20, 3599, 1000), hole(20, 3515, 1000), hole(20, 3514, 1000), hole(20, 3421, 1000), hole(20, 3420, 1000)}, both, 20, at(0, 1000), []int{0, 1, 2, 3}, []int{0, 1}},
		// A stain that reaches nowhere, to no side or up.
		{[]api.Hole{hole(20, 0, 1000)}, rulesWith(func(l *api.TapRules) { l.Side = one(0) }), 20, at(0, 1000), nil, nil},
		{[]api.Hole{hole(20, 0, 1000)}, rulesWith(func(l *api.TapRules) { l.Side = r(0, 1) }), 20, at(0, 1000), []int{0}, nil},
		{[]api.Hole{hole(20, 0, 1000)}, rulesWith(func(l *api.TapRules) { l.Up = r(0, 1) }), 20, at(0, 1000), []int{0}, nil},
		{[]api.Hole{hole(20, 0, 1000)}, rulesWith(func(l *api.TapRules) { l.Up = one(0) }), 20, at(0, 1000), nil, nil},
	} {
		tree := treeWith(func(t *api.Tree) { t.Holes = c.holes })
		possibly, surely, e := trunk.Blocks(tree, c.rules, c.year, c.spot)
		sameList(t, fmt.Sprint("Blocks possibly ", i), possibly, e, c.possibly, api.OK)
		sameList(t, fmt.Sprint("Blocks surely ", i), surely, e, c.surely, api.OK)
	}
	for _, s := range []api.Spot{at(-1, 0), at(3600, 0), at(0, -1), at(0, 5001), at(low, high), at(high, low)} {
		possibly, surely, e := trunk.Blocks(oldTree(), usual(), 20, s)
		sameList(t, fmt.Sprint("Blocks of ", s), append(possibly, surely...), e, nil, api.ErrRange)
	}
	for _, s := range []api.Spot{at(0, 0), at(3599, 5000)} {
		possibly, surely, e := trunk.Blocks(oldTree(), usual(), 20, s)
		sameList(t, fmt.Sprint("Blocks of ", s), append(possibly, surely...), e, nil, api.OK)
	}
}

func TestP2_4BlocksInAllTruths(t *testing.T) {
	d := dice()
	for range 3000 {
		tree, rules := anyTree(d), anyRules(d)
		year, spot := tree.Year+pick(d, 0, 4), at(pick(d, 0, api.Turn-1), pick(d, 1000, 1010))
		if len(tree.Holes) > 0 && d.IntN(2) == 0 {
			spot.Angle = (tree.Holes[0].Spot.Angle + pick(d, 0, 20)) % api.Turn
		}
		var some, each []int
		for i, h := range tree.Holes {
			all, forbidden := truths(tree, rules, year, h, spot)
			if forbidden > 0 {
				some = append(some, i)
			}
			if forbidden == all {
				each = append(each, i)
			}
		}
		possibly, surely, e := trunk.Blocks(tree, rules, year, spot)
		sameList(t, fmt.Sprint("Blocks possibly ", tree, rules, year, spot), possibly, e, some, api.OK)
		sameList(t, fmt.Sprint("Blocks surely ", tree, rules, year, spot), surely, e, each, api.OK)
	}
}

func TestP2_5Free(t *testing.T) {
	all := set(r(0, 3599))
	side := func(n int) api.TapRules { return plain(n, 1) }
	for i, c := range []struct {
		tree         api.Tree
		rules        api.TapRules
		year, height int
		want         []api.Range
	}{
		{oldTree(), usual(), 24, 1000, set(r(178, 3422))},
		{oldTree(), usual(), 24, 1299, set(r(178, 3422))},
		{oldTree(), usual(), 24, 1300, all},
		{oldTree(), usual(), 24, 701, set(r(178, 3422))},
		{oldTree(), usual(), 24, 700, all},
		{oldTree(), usual(), 27, 1000, set(r(175, 3425))},
		{oldTree(), usual(), 28, 1000, all},
		// Whether taps may be at the height plays no part.
		{oldTree(), rulesWith(func(l *api.TapRules) { l.Between = one(0) }), 24, 1000, set(r(178, 3422))},
		{round(), side(10), 20, 0, all},
		{round(), side(5000), 20, 5000, all},
		// A hole at the first angle, at the last one, and between them.
		{round(hole(20, 0, 7)), side(1), 20, 7, set(r(1, 3599))},
		{round(hole(20, 0, 7)), side(2), 20, 7, set(r(2, 3598))},
		{round(hole(20, 3599, 7)), side(1), 20, 7, set(r(0, 3598))},
		{round(hole(20, 3599, 7)), side(2), 20, 7, set(r(1, 3597))},
		{round(hole(20, 1, 7)), side(2), 20, 7, set(r(3, 3599))},
		{round(hole(20, 3598, 7)), side(2), 20, 7, set(r(0, 3596))},
		{round(hole(20, 1800, 7)), side(3), 20, 7, set(r(0, 1797), r(1803, 3599))},
		{round(hole(20, 1800, 7), hole(20, 1805, 7)), side(3), 20, 7, set(r(0, 1797), r(1808, 3599))},
		{round(hole(20, 1800, 7), hole(20, 1806, 7)), side(3), 20, 7, set(r(0, 1797), r(1803, 1803), r(1809, 3599))},
		{round(hole(20, 1806, 7), hole(20, 1800, 7), hole(20, 1803, 8)), side(3), 20, 7, set(r(0, 1797), r(1803, 1803), r(1809, 3599))},
		// Stains around nearly, just, and more than the whole trunk.
		{round(hole(20, 1800, 7)), side(0), 20, 7, all},
		{round(hole(20, 1800, 7)), side(1799), 20, 7, set(r(0, 1), r(3599, 3599))},
		{round(hole(20, 1800, 7)), side(1800), 20, 7, set(r(0, 0))},
		{round(hole(20, 0, 7)), side(1800), 20, 7, set(r(1800, 1800))},
		{round(hole(20, 5, 7)), side(1801), 20, 7, nil},
		{round(hole(20, 5, 7)), side(3601), 20, 7, nil},
		{round(hole(20, 5, 7)), side(5000), 20, 7, nil},
		{api.Tree{Year: 20, Girth: one(1), Holes: []api.Hole{hole(20, 5, 7)}}, side(1), 20, 7, nil},
		{api.Tree{Year: 20, Girth: r(2, 10000), Holes: []api.Hole{hole(20, 5, 7)}}, side(1), 20, 7, set(r(1805, 1805))},
		{api.Tree{Year: 20, Girth: one(10000), Grow: one(10000), Holes: []api.Hole{hole(21, 5, 7)}}, side(5), 21, 7, set(r(0, 3), r(7, 3599))},
		// As many ranges as there can be.
		{round(comb(60)...), side(1), 20, 7, without(60)},
	} {
		got, e := trunk.Free(c.tree, c.rules, c.year, c.height)
		sameList(t, fmt.Sprint("Free ", i), got, e, c.want, api.OK)
	}
}

// comb returns holes at each other angle, from 1 on, and without returns the other angles.
func comb(n int) []api.Hole {
	var l []api.Hole
	for i := range n {
		l = append(l, hole(20, 2*i+1, 7))
	}
	return l
}

func without(n int) []api.Range {
	var l []api.Range
	for i := range n {
		l = append(l, one(2*i))
	}
	return append(l, r(2*n, api.Turn-1))
}

func TestP2_5FreeErrors(t *testing.T) {
	for _, height := range []int{low, -1, 5001, high} {
		free, e := trunk.Free(oldTree(), usual(), 20, height)
		sameList(t, fmt.Sprint("Free at ", height), free, e, nil, api.ErrRange)
		most, e := trunk.Most(oldTree(), usual(), 20, height)
		same(t, fmt.Sprint("Most at ", height), most, e, 0, api.ErrRange)
		spots, e := trunk.Spots(oldTree(), usual(), 20, height, 0)
		sameList(t, fmt.Sprint("Spots at ", height), spots, e, nil, api.ErrRange)
		spots, e = trunk.Spots(oldTree(), usual(), 20, height, 20)
		sameList(t, fmt.Sprint("Spots at ", height), spots, e, nil, api.ErrRange)
	}
	for _, height := range []int{0, 5000} {
		free, e := trunk.Free(oldTree(), usual(), 20, height)
		sameList(t, fmt.Sprint("Free at ", height), free, e, set(r(0, 3599)), api.OK)
		most, e := trunk.Most(oldTree(), rulesWith(func(l *api.TapRules) { l.Between = r(0, 5000) }), 20, height)
		same(t, fmt.Sprint("Most at ", height), most, e, 3, api.OK)
	}
	for _, n := range []int{low, -1, 21, high} {
		spots, e := trunk.Spots(oldTree(), usual(), 20, 1000, n)
		sameList(t, fmt.Sprint("Spots of ", n), spots, e, nil, api.ErrRange)
	}
}

func TestP2_5FreeInAllTruths(t *testing.T) {
	d := dice()
	for range 60 {
		tree, rules := anyTree(d), anyRules(d)
		year, height := tree.Year+pick(d, 0, 4), pick(d, 1000, 1010)
		got, e := trunk.Free(tree, rules, year, height)
		if e != api.OK || span.CheckSet(got) != api.OK {
			t.Fatal(tree, rules, year, height, got, e)
		}
		for angle := range api.Turn {
			free := !slices.ContainsFunc(tree.Holes, func(h api.Hole) bool {
				_, forbidden := truths(tree, rules, year, h, at(angle, height))
				return forbidden > 0
			})
			if has(got, angle) != free {
				t.Fatal(tree, rules, year, height, angle, got)
			}
		}
	}
}

func TestP2_6MostSpots(t *testing.T) {
	only := func(angles ...int) api.Tree { return round(around(61, angles...)...) }
	for i, c := range []struct {
		tree   api.Tree
		rules  api.TapRules
		year   int
		height int
		most   int
		spots  []int // of Most, if they are at most 20
	}{
		{oldTree(), usual(), 24, 1000, 3, []int{178, 1359, 2540}},
		{oldTree(), usual(), 24, 1600, 3, []int{0, 1181, 2362}},
		{oldTree(), usual(), 24, 1601, 0, nil},
		{oldTree(), usual(), 24, 1700, 0, nil},
		{oldTree(), usual(), 24, 600, 3, []int{0, 1181, 2362}},
		{oldTree(), usual(), 24, 599, 0, nil},
		// No hole: as often as they fit around.
		{round(), plain(1, 1), 20, 7, 3600, nil},
		{round(), plain(1, 2), 20, 7, 1800, nil},
		{round(), plain(1, 7), 20, 7, 514, nil},
		{round(), plain(1, 180), 20, 7, 20, []int{0, 180, 360, 540, 720, 900, 1080, 1260, 1440, 1620, 1800, 1980, 2160, 2340, 2520, 2700, 2880, 3060, 3240, 3420}},
		{round(), plain(1, 181), 20, 7, 19, nil},
		{round(), plain(1, 1200), 20, 7, 3, []int{0, 1200, 2400}},
		{round(), plain(1, 1201), 20, 7, 2, []int{0, 1201}},
		{round(), plain(1, 1800), 20, 7, 2, []int{0, 1800}},
		{round(), plain(1, 1801), 20, 7, 1, []int{0}},
		{round(), plain(1, 3600), 20, 7, 1, []int{0}},
		{round(), plain(1, 3601), 20, 7, 1, []int{0}},
		{round(), plain(1, 5000), 20, 7, 1, []int{0}},
		{api.Tree{Year: 20, Girth: one(1)}, plain(1, 5000), 20, 7, 1, []int{0}},
		{api.Tree{Year: 20, Girth: one(10000)}, plain(1, 1), 20, 7, 3600, nil},
		{api.Tree{Year: 20, Girth: one(10000)}, plain(1, 3), 20, 7, 1800, nil},
		{api.Tree{Year: 20, Girth: r(1800, 10000)}, plain(1, 1), 20, 7, 1800, nil},
		{api.Tree{Year: 20, Girth: r(1799, 10000)}, plain(1, 1), 20, 7, 1200, nil},
		// No angle is free.
		{round(hole(20, 0, 7)), plain(5000, 1), 20, 7, 0, nil},
		{round(hole(20, 0, 7)), plain(1801, 5000), 20, 7, 0, nil},
		{round(hole(20, 0, 7)), plain(1800, 5000), 20, 7, 1, []int{1800}},
		// Two that are just apart, and just not: to the right, and the other way around.
		{only(300, 700), plain(61, 400), 20, 7, 2, []int{300, 700}},
		{only(300, 700), plain(61, 401), 20, 7, 1, []int{300}},
		{only(100, 3300), plain(61, 400), 20, 7, 2, []int{100, 3300}},
		{only(100, 3300), plain(61, 401), 20, 7, 1, []int{100}},
		// The first angle does not go with two others, the second one does; or no angle goes with two others.
		{only(0, 900, 1900, 2900), plain(61, 1000), 20, 7, 3, []int{900, 1900, 2900}},
		{only(0, 900, 1900, 2600), plain(61, 1000), 20, 7, 2, []int{0, 1900}},
		{only(0, 500, 1500, 2500, 3500), plain(61, 1000), 20, 7, 3, []int{0, 1500, 2500}},
		{only(0, 500, 1499, 2500, 3499), plain(61, 1000), 20, 7, 3, []int{0, 1499, 2500}},
		{only(500, 1400, 1501, 2399, 2501, 3300, 3401), plain(61, 1000), 20, 7, 3, []int{500, 1501, 2501}},
		{only(400, 1000, 2200, 3400), plain(61, 1200), 20, 7, 3, []int{1000, 2200, 3400}},
	} {
		most, e := trunk.Most(c.tree, c.rules, c.year, c.height)
		same(t, fmt.Sprint("Most ", i), most, e, c.most, api.OK)
		for n := range c.most {
			if n > api.MaxTaps {
				break
			}
			spots, e := trunk.Spots(c.tree, c.rules, c.year, c.height, n)
			if e != api.OK || len(spots) != n {
				t.Error(i, n, spots, e)
			}
		}
		if c.spots != nil {
			spots, e := trunk.Spots(c.tree, c.rules, c.year, c.height, c.most)
			sameList(t, fmt.Sprint("Spots ", i), spots, e, row(c.height, c.spots...), api.OK)
		}
		if c.most < api.MaxTaps {
			spots, e := trunk.Spots(c.tree, c.rules, c.year, c.height, c.most+1)
			sameList(t, fmt.Sprint("one spot more ", i), spots, e, nil, api.ErrNone)
		}
		spots, e := trunk.Spots(c.tree, c.rules, c.year, c.height, 0)
		sameList(t, fmt.Sprint("no spots ", i), spots, e, nil, api.OK)
	}
}

// around returns holes that leave only these angles free on a round trunk, if they forbid side - 1 to each side.
func around(side int, free ...int) []api.Hole {
	var l []api.Hole
	wide := 2*side - 1
	for i, a := range free {
		b := free[(i+1)%len(free)]
		gap := (b - a - 1 + api.Turn) % api.Turn
		for done := 0; done < gap; done += wide {
			done = min(done, gap-wide)
			l = append(l, hole(20, (a+1+done+side-1)%api.Turn, 7))
		}
	}
	return l
}

// fewAngles returns angles in runs of up to three, with gaps that holes can fill.
func fewAngles(d *rand.Rand) []int {
	var l []int
	shift := pick(d, 0, api.Turn-1)
	for a, gap := 0, 122+pick(d, 0, 700); a < api.Turn-125 && len(l) < 12; a += 125 + pick(d, 0, gap) {
		for i := range pick(d, 1, 3) {
			l = append(l, (a+i+shift)%api.Turn)
		}
	}
	slices.Sort(l)
	return l
}

// allLists tries all lists of angles that are apart in each truth, the smallest ones first, and keeps the first one of each length.
func allLists(free, list []int, girths []int, apart int, first map[int][]int) {
	if first[len(list)] == nil {
		first[len(list)] = append([]int{}, list...)
	}
	for i, a := range free {
		ok := !slices.ContainsFunc(list, func(b int) bool {
			return slices.ContainsFunc(girths, func(girth int) bool { return turnBetween(a, b)*girth < api.Turn*apart })
		})
		if ok {
			allLists(free[i+1:], append(list, a), girths, apart, first)
		}
	}
}

func TestP2_6MostSpotsOfAllLists(t *testing.T) {
	d := dice()
	for range 400 {
		free := fewAngles(d)
		tree, rules := round(around(61, free...)...), plain(61, pick(d, 1, []int{200, 1300, 1900}[d.IntN(3)]))
		tree.Girth.High += pick(d, 0, 5)
		got, e := trunk.Free(tree, rules, 20, 7)
		if n, _ := span.Count(got); e != api.OK || n != len(free) {
			t.Fatal(free, got, e)
		}
		first := map[int][]int{}
		allLists(free, nil, girths(tree, 20), rules.Apart, first)
		most, e := trunk.Most(tree, rules, 20, 7)
		same(t, fmt.Sprint("Most of ", free, rules.Apart), most, e, len(first)-1, api.OK)
		for n := range len(first) {
			spots, e := trunk.Spots(tree, rules, 20, 7, n)
			sameList(t, fmt.Sprint("Spots of ", free, rules.Apart, n), spots, e, row(7, first[n]...), api.OK)
		}
		spots, e := trunk.Spots(tree, rules, 20, 7, len(first))
		sameList(t, fmt.Sprint("more Spots of ", free, rules.Apart), spots, e, nil, api.ErrNone)
	}
}

// greedy returns the longest of the lists that begin at some angle and go on with the first one that is apart, and the first one with n.
func greedy(free []api.Range, turn, n int) (most int, list []int) {
	for first := range api.Turn {
		if !has(free, first) {
			continue
		}
		l := []int{first}
		for a := first + 1; a < api.Turn; a++ {
			if has(free, a) && a-l[len(l)-1] >= turn && first+api.Turn-a >= turn {
				l = append(l, a)
			}
		}
		if len(l) >= n && list == nil {
			list = l[:n]
		}
		most = max(most, len(l))
	}
	return most, list
}

func TestP2_6MostSpotsFromEachAngle(t *testing.T) {
	d := dice()
	for range 30 {
		tree := round()
		for range pick(d, 0, 25) {
			tree.Holes = append(tree.Holes, hole(20, pick(d, 0, api.Turn-1), 7))
		}
		tree.Girth = near(d, 1000, 5000, 300, api.MaxGirth)
		rules := plain(pick(d, 1, 120), pick(d, 100, 1500))
		free, _ := trunk.Free(tree, rules, 20, 7)
		turn, n := 0, pick(d, 1, 8)
		for turn*tree.Girth.Low < api.Turn*rules.Apart {
			turn++
		}
		want, list := greedy(free, turn, n)
		most, e := trunk.Most(tree, rules, 20, 7)
		same(t, fmt.Sprint("Most of ", free, turn), most, e, want, api.OK)
		spots, e := trunk.Spots(tree, rules, 20, 7, n)
		if n <= want {
			sameList(t, fmt.Sprint("Spots of ", free, turn, n), spots, e, row(7, list...), api.OK)
		} else {
			sameList(t, fmt.Sprint("Spots of ", free, turn, n), spots, e, nil, api.ErrNone)
		}
	}
}
