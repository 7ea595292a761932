package trunk_test

import (
	"fmt"
	"math/rand/v2"
	"reflect"
	"slices"
	"testing"

	"spile/api"
	"spile/span"
	"spile/trunk"
)

// question is all that functions of the package can be asked about.
type question struct {
	tree      api.Tree
	rules     api.TapRules
	year      int
	height, n int
	spot      api.Spot
	spots     []api.Spot
	heights   []int
	years     int
	plan      [][]api.Spot
}

// ask calls every function, and returns the results of each as a list that ends with the error.
func (q question) ask() map[string][]any {
	told := map[string][]any{
		"CheckTree":  {trunk.CheckTree(q.tree)},
		"CheckRules": {trunk.CheckRules(q.rules)},
	}
	girth, e := trunk.Girth(q.tree, q.year)
	told["Girth"] = []any{girth, e}
	taps, e := trunk.Taps(q.tree, q.rules, q.year)
	told["Taps"] = []any{taps, e}
	possibly, surely, e := trunk.Blocks(q.tree, q.rules, q.year, q.spot)
	told["Blocks"] = []any{possibly, surely, e}
	free, e := trunk.Free(q.tree, q.rules, q.year, q.height)
	told["Free"] = []any{free, e}
	most, e := trunk.Most(q.tree, q.rules, q.year, q.height)
	told["Most"] = []any{most, e}
	spots, e := trunk.Spots(q.tree, q.rules, q.year, q.height, q.n)
	told["Spots"] = []any{spots, e}
	at, rule, e := trunk.Keeps(q.tree, q.rules, q.year, q.spots)
	told["Keeps"] = []any{at, rule, e}
	drilled, e := trunk.Drill(q.tree, q.year, q.spots)
	told["Drill"] = []any{drilled, e}
	plan, at, e := trunk.Rota(q.tree, q.rules, q.year, q.n, q.heights, q.years)
	told["Rota"] = []any{plan, at, e}
	year, at, rule, e := trunk.Verify(q.tree, q.rules, q.year, q.plan)
	told["Verify"] = []any{year, at, rule, e}
	return told
}

// usualQuestion asks about the chapter's examples.
func usualQuestion() question {
	return question{
		tree: treeWith(func(t *api.Tree) { t.Holes = append(t.Holes, hole(19, 1700, 1300)) }), rules: usual(), year: 22, height: 1000, n: 1, spot: at(80, 1100),
		spots: row(1000, 178, 1359), heights: []int{599, 1000, 1300}, years: 2, plan: plan(row(1000, 179), row(1000, 359, 900)),
	}
}

// numbersOf returns pointers to all numbers of a question.
func (q *question) numbersOf() []*int {
	t, l := &q.tree, &q.rules
	all := []*int{&t.Year, &t.Girth.Low, &t.Girth.High, &t.Grow.Low, &t.Grow.High, &t.Health, &l.Side.Low, &l.Side.High, &l.Up.Low, &l.Up.High, &l.Heal.Low, &l.Heal.High, &l.Apart, &l.Between.Low, &l.Between.High, &l.Open, &q.year, &q.height, &q.n, &q.spot.Angle, &q.spot.Height, &q.years}
	for i := range t.Holes {
		all = append(all, &t.Holes[i].Year, &t.Holes[i].Spot.Angle, &t.Holes[i].Spot.Height)
	}
	for i := range l.Sizes {
		all = append(all, &l.Sizes[i].Girth, &l.Sizes[i].Taps)
	}
	for i := range l.Healths {
		all = append(all, &l.Healths[i])
	}
	for i := range q.heights {
		all = append(all, &q.heights[i])
	}
	for _, list := range append(slices.Clone(q.plan), q.spots) {
		for i := range list {
			all = append(all, &list[i].Angle, &list[i].Height)
		}
	}
	return all
}

// zero reports whether a result is its zero value.
func zero(v any) bool {
	x := reflect.ValueOf(v)
	return x.IsZero() || x.Kind() == reflect.Slice && x.Len() == 0
}

// checkZero reports results beside an error; Rota returns a number with those of a year.
func checkZero(t *testing.T, what string, q question) {
	t.Helper()
	for name, results := range q.ask() {
		last := len(results) - 1
		e := results[last].(api.Errno)
		if e == api.OK {
			continue
		}
		if name == "Rota" && (e == api.ErrNone || e == api.ErrFull) {
			results[1] = 0
		}
		if slices.ContainsFunc(results[:last], func(v any) bool { return !zero(v) }) {
			t.Fatal(what, name, results, q)
		}
	}
}

// TestP1AllArguments also shows P2: each call ends, none panics, and with an error there is no other result.
func TestP1AllArguments(t *testing.T) {
	hard := []int{low, low + 1, -api.MaxSpan, -10001, -1, 0, 1, 2, 20, 21, 40, 41, 60, 61, 100, 101, 1800, 3599, 3600, 5000, 5001, 9999, 10000, 10001, api.MaxSpan, high - 1, high}
	checkZero(t, "nothing", question{})
	first := usualQuestion()
	for i := range first.numbersOf() {
		for _, n := range hard {
			q := usualQuestion()
			*q.numbersOf()[i] = n
			checkZero(t, fmt.Sprint("the number ", i, " is ", n), q)
		}
	}
	d := dice()
	for range 20000 {
		q := usualQuestion()
		all := q.numbersOf()
		for range pick(d, 2, 12) {
			*all[d.IntN(len(all))] = hard[d.IntN(len(hard))]
		}
		checkZero(t, "many numbers", q)
	}
	for _, n := range []int{0, 1, 20, 21, 40, 41, 60, 61, 5000} {
		q := usualQuestion()
		q.tree.Holes, q.rules.Sizes = slices.Repeat(q.tree.Holes[:1], n), manySizes(n)
		checkZero(t, "a long tree", q)
		q = usualQuestion()
		q.spots, q.heights, q.plan = slices.Repeat(q.spots[:1], n), slices.Repeat(q.heights[1:2], n), slices.Repeat(q.plan, n)
		checkZero(t, "long lists", q)
	}
}

// TestP1Slow asks for as much as there can be: it would not end soon if each call tried all angles from each angle.
func TestP1Slow(t *testing.T) {
	tree, rules := round(), plain(60, 1)
	for i := range 60 {
		tree.Holes = append(tree.Holes, hole(0, 60*i, 5000*(i%2)))
	}
	rules.Heal, rules.Up = one(100), one(5000)
	q := question{tree: tree, rules: rules, year: 20, n: 20, heights: slices.Repeat([]int{2500}, 20), years: 40, height: 2500, plan: make([][]api.Spot, 40)}
	for _, apart := range []int{1, 2, 900, 1800, 5000} {
		for _, side := range []int{1, 2, 30, 60, 5000} {
			q.rules.Apart, q.rules.Side = apart, one(side)
			checkZero(t, "a slow question", q)
		}
	}
}

// roomy returns a copy of a list with room behind it, so that what is written there is seen as well.
func roomy[T any](l []T) []T { return append(make([]T, 0, len(l)+100), l...) }

// copied returns a copy of a question that shares no memory with it.
func (q question) copied() question {
	q.tree.Holes, q.rules.Sizes, q.spots, q.heights, q.plan = roomy(q.tree.Holes), roomy(q.rules.Sizes), roomy(q.spots), roomy(q.heights), roomy(q.plan)
	for i := range q.plan {
		q.plan[i] = roomy(q.plan[i])
	}
	return q
}

// full returns a question whose lists show all of their room.
func (q question) full() question {
	q.tree.Holes, q.rules.Sizes, q.spots, q.heights = q.tree.Holes[:cap(q.tree.Holes)], q.rules.Sizes[:cap(q.rules.Sizes)], q.spots[:cap(q.spots)], q.heights[:cap(q.heights)]
	q.plan = slices.Clone(q.plan[:cap(q.plan)])
	for i, l := range q.plan {
		q.plan[i] = l[:cap(l)]
	}
	return q
}

// spoil writes into all lists of a result, and into the room behind them.
func spoil(v reflect.Value) {
	switch v.Kind() {
	case reflect.Slice:
		all := v.Slice(0, v.Cap())
		for i := range all.Len() {
			spoil(all.Index(i))
			all.Index(i).SetZero()
		}
	case reflect.Struct:
		for i := range v.NumField() {
			spoil(v.Field(i))
		}
	}
}

func TestR4Memory(t *testing.T) {
	d := dice()
	bad := usualQuestion()
	bad.tree.Holes, bad.plan = append(bad.tree.Holes, hole(-1, 0, 0)), append(bad.plan, row(-1, -1))
	none := usualQuestion()
	none.tree.Holes, none.rules.Sizes, none.spots, none.heights, none.plan = nil, nil, nil, nil, nil
	empty := usualQuestion()
	empty.spots, empty.plan = nil, plan(nil, nil)
	questions := []question{usualQuestion(), bad, none, empty}
	for range 30 {
		questions = append(questions, anyQuestion(d))
	}
	for _, q := range questions {
		given, kept := q.copied(), q.copied()
		results := given.ask()
		if !reflect.DeepEqual(given.full(), kept.full()) {
			t.Fatal("an argument is changed:", given, kept)
		}
		if again := given.ask(); !reflect.DeepEqual(again, results) {
			t.Fatal("it is not the same again:", results, again)
		}
		for _, list := range results {
			for _, v := range list {
				spoil(reflect.ValueOf(v))
			}
		}
		if !reflect.DeepEqual(given.full(), kept.full()) {
			t.Fatal("a result shares memory with an argument:", given, kept)
		}
	}
}

// anyQuestion returns a question about whose ranges all truths can be tried.
func anyQuestion(d *rand.Rand) question {
	q := question{height: pick(d, 1000, 1010), spot: at(pick(d, 0, 3599), pick(d, 1000, 1010))}
	q.tree, q.rules, q.year, q.n, q.heights, q.years = someRota(d)
	for range pick(d, 0, 3) {
		q.spots = append(q.spots, at(pick(d, 0, 3599), pick(d, 1000, 1010)))
		q.plan = append(q.plan, slices.Clone(q.spots))
	}
	return q
}

// TestR4LaterChanges shows that what is written into an argument is not seen in a result, nor what is written into one list of a result in another one.
func TestR4LaterChanges(t *testing.T) {
	tree, spots := oldTree(), row(1000, 180)
	drilled, _ := trunk.Drill(tree, 20, spots)
	bare, _ := trunk.Drill(tree, 20, nil)
	tree.Holes[0], spots[0] = hole(7, 7, 7), at(7, 7)
	sameList(t, "Drill", drilled.Holes, api.OK, []api.Hole{hole(20, 0, 1000), hole(20, 180, 1000)}, api.OK)
	sameList(t, "Drill of no spots", bare.Holes, api.OK, []api.Hole{hole(20, 0, 1000)}, api.OK)
	left, _ := trunk.Drill(drilled, 21, row(1000, 1))
	right, _ := trunk.Drill(drilled, 21, row(1000, 2))
	if left.Holes[2].Spot.Angle != 1 || right.Holes[2].Spot.Angle != 2 {
		t.Error("two trees share a hole:", left, right)
	}
	two := withTaps(10, 400, 2)
	l, _, _ := trunk.Rota(round(), two, 20, 2, []int{7}, 3)
	want := plan(row(7, 0, 400), row(7, 10, 410), row(7, 20, 420))
	samePlan(t, "Rota", l, 0, api.OK, want, 0, api.OK)
	for i := range l[0][:cap(l[0])] {
		l[0][:cap(l[0])][i] = at(9, 9)
	}
	samePlan(t, "Rota", l[1:], 0, api.OK, want[1:], 0, api.OK)
	possibly, surely, _ := trunk.Blocks(oldTree(), usual(), 22, at(80, 1100))
	possibly[0] = 9
	sameList(t, "Blocks", surely, api.OK, []int{0}, api.OK)
}

// TestR3NilAndEmpty asks with nil lists and with empty ones.
func TestR3NilAndEmpty(t *testing.T) {
	q := usualQuestion()
	q.tree.Holes, q.rules.Sizes, q.spots, q.heights, q.plan = nil, nil, nil, nil, plan(nil, nil)
	q.n = 0
	nils := q.ask()
	q.tree.Holes, q.rules.Sizes, q.spots, q.heights, q.plan = []api.Hole{}, []api.Size{}, []api.Spot{}, []int{}, plan([]api.Spot{}, []api.Spot{})
	for name, results := range q.ask() {
		if fmt.Sprint(results) != fmt.Sprint(nils[name]) {
			t.Error(name, results, nils[name])
		}
	}
}

// oneTruth returns a number of each range.
func oneTruth(d *rand.Rand, a api.Range) int { return pick(d, a.Low, a.High) }

func TestP2_11ForAnyHealing(t *testing.T) {
	d := dice()
	forbidden := 0
	for range 300 {
		tree, rules := anyTree(d), anyRules(d)
		year, height := tree.Year+pick(d, 0, 4), pick(d, 1000, 1010)
		free, _ := trunk.Free(tree, rules, year, height)
		girth, _ := trunk.Girth(tree, year)
		for _, h := range tree.Holes {
			for range 300 {
				angle := (h.Spot.Angle + pick(d, 0, 40) + api.Turn - 20) % api.Turn
				if has(free, angle) {
					turn, rise := turnBetween(h.Spot.Angle, angle), h.Spot.Height-height
					side, up, heal := oneTruth(d, rules.Side), oneTruth(d, rules.Up), oneTruth(d, rules.Heal)
					if year-h.Year < heal && turn*oneTruth(d, girth) < api.Turn*side && max(rise, -rise) < up {
						t.Fatal(tree, rules, year, height, angle, "is not free of", h)
					}
					continue
				}
				forbidden++
				possibly, _, _ := trunk.Blocks(tree, rules, year, at(angle, height))
				if len(possibly) == 0 {
					t.Fatal(tree, rules, year, height, angle, "is free")
				}
			}
		}
	}
	if forbidden < 1000 {
		t.Error("too few angles that are not free", forbidden)
	}
}

// wider returns a range with all numbers of another one, and more, within limits.
func wider(d *rand.Rand, a api.Range, low, high int) api.Range {
	return r(max(a.Low-pick(d, 0, 3), low), min(a.High+pick(d, 0, 3), high))
}

// inside reports whether all numbers of a set are in another one.
func inside(a, b []api.Range) bool {
	more, e := span.Without(a, b)
	return e == api.OK && len(more) == 0
}

func TestP2_12LessKnown(t *testing.T) {
	d := dice()
	fewer := 0
	for range 3000 {
		tree, rules := anyTree(d), anyRules(d)
		year, height := tree.Year+pick(d, 0, 4), pick(d, 1000, 1010)
		vague, unsure := tree, rules
		vague.Girth, vague.Grow = wider(d, tree.Girth, 1, api.MaxGirth), wider(d, tree.Grow, 0, api.MaxGirth)
		unsure.Side, unsure.Up, unsure.Heal = wider(d, rules.Side, 0, api.MaxReach), wider(d, rules.Up, 0, api.MaxReach), wider(d, rules.Heal, 0, api.MaxHeal)
		known, e := trunk.Free(tree, rules, year, height)
		less, f := trunk.Free(vague, unsure, year, height)
		if e != api.OK || f != api.OK || !inside(less, known) {
			t.Fatal(tree, rules, vague, unsure, year, height, known, less)
		}
		taps, e := trunk.Taps(tree, rules, year)
		fewest, f := trunk.Taps(vague, unsure, year)
		if e != api.OK || f != api.OK || fewest.Low > taps.Low || fewest.High < taps.High {
			t.Fatal(tree, rules, vague, unsure, year, taps, fewest)
		}
		if fewest.Low < taps.Low || !inside(known, less) {
			fewer++
		}
	}
	if fewer < 500 {
		t.Error("too few with less", fewer)
	}
}

func TestP2_12EarlierYears(t *testing.T) {
	d := dice()
	for range 1000 {
		tree, rules := anyTree(d), anyRules(d)
		tree.Grow = one(0)
		height := pick(d, 1000, 1010)
		var before []api.Range
		for year := tree.Year; year < tree.Year+12; year++ {
			free, e := trunk.Free(tree, rules, year, height)
			if e != api.OK || year > tree.Year && !inside(before, free) {
				t.Fatal(tree, rules, year, height, before, free, e)
			}
			before = free
		}
	}
}

func TestP2_13NeverTooNear(t *testing.T) {
	d := dice()
	taps := 0
	for range 600 {
		tree, rules, first, n, heights, years := someRota(d)
		l, _, e := trunk.Rota(tree, rules, first, n, heights, years)
		if e != api.OK {
			continue
		}
		year, at, rule, e := trunk.Verify(tree, rules, first, l)
		same(t, fmt.Sprint("Verify of ", tree, rules, first, l), [3]int{year, at, rule}, e, noFault, api.OK)
		for _, spots := range l {
			taps += len(spots)
		}
	}
	if taps < 200 {
		t.Error("too few taps", taps)
	}
	for range 3000 {
		tree, rules := anyTree(d), anyRules(d)
		l := row(pick(d, 1000, 1010), pick(d, 0, 1200), pick(d, 1200, 2400), pick(d, 2400, 3599))
		if at, _, _ := trunk.Keeps(tree, rules, tree.Year, l); at >= 0 {
			l = l[:at]
		}
		for ; len(l) > 0; l = l[:len(l)-1] {
			at, rule, e := trunk.Keeps(tree, rules, tree.Year, l)
			same(t, fmt.Sprint("Keeps of ", tree, rules, l), [2]int{at, rule}, e, [2]int{-1, 0}, api.OK)
		}
	}
}

func TestExamples(t *testing.T) {
	girth, e := trunk.Girth(oldTree(), 24)
	same(t, "Girth", girth, e, r(1220, 1300), api.OK)
	taps, e := trunk.Taps(oldTree(), usual(), 24)
	same(t, "Taps", taps, e, one(1), api.OK)
	free, e := trunk.Free(oldTree(), usual(), 24, 1000)
	sameList(t, "Free at 1000", free, e, set(r(178, 3422)), api.OK)
	free, e = trunk.Free(oldTree(), usual(), 24, 1300)
	sameList(t, "Free at 1300", free, e, set(r(0, 3599)), api.OK)
	free, e = trunk.Free(oldTree(), usual(), 28, 1000)
	sameList(t, "Free in the year 28", free, e, set(r(0, 3599)), api.OK)
	possibly, surely, e := trunk.Blocks(oldTree(), usual(), 22, at(80, 1100))
	sameList(t, "possibly in the year 22", possibly, e, []int{0}, api.OK)
	sameList(t, "surely in the year 22", surely, e, []int{0}, api.OK)
	possibly, surely, e = trunk.Blocks(oldTree(), usual(), 24, at(80, 1100))
	sameList(t, "possibly in the year 24", possibly, e, []int{0}, api.OK)
	sameList(t, "surely in the year 24", surely, e, nil, api.OK)
	most, e := trunk.Most(oldTree(), usual(), 24, 1000)
	same(t, "Most at 1000", most, e, 3, api.OK)
	spots, e := trunk.Spots(oldTree(), usual(), 24, 1000, 3)
	sameList(t, "Spots", spots, e, row(1000, 178, 1359, 2540), api.OK)
	most, e = trunk.Most(oldTree(), usual(), 24, 1700)
	same(t, "Most at 1700", most, e, 0, api.OK)
	tap, rule, e := trunk.Keeps(oldTree(), usual(), 24, spots[:2])
	same(t, "Keeps", [2]int{tap, rule}, e, [2]int{1, 4}, api.OK)
}
