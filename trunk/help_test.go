package trunk_test

import (
	"math/rand/v2"
	"slices"
	"testing"

	"spile/api"
)

const (
	low  = -1 << 63
	high = 1<<63 - 1
)

// r returns a range, and one returns the range of one number.
func r(low, high int) api.Range { return api.Range{Low: low, High: high} }

func one(n int) api.Range { return r(n, n) }

func set(l ...api.Range) []api.Range { return l }

func at(angle, height int) api.Spot { return api.Spot{Angle: angle, Height: height} }

// hole returns a hole of a year.
func hole(year, angle, height int) api.Hole { return api.Hole{Year: year, Spot: at(angle, height)} }

// row returns spots with a height.
func row(height int, angles ...int) []api.Spot {
	var l []api.Spot
	for _, angle := range angles {
		l = append(l, at(angle, height))
	}
	return l
}

// oldTree and usual are the tree and the rules of the chapter's examples.
func oldTree() api.Tree {
	return api.Tree{Year: 20, Girth: r(1200, 1260), Grow: r(5, 10), Health: 3, Holes: []api.Hole{hole(20, 0, 1000)}}
}

func usual() api.TapRules {
	return api.TapRules{
		Side: r(30, 60), Up: r(200, 300), Heal: r(3, 8), Apart: 400, Between: r(600, 1600),
		Sizes:   []api.Size{{Girth: 800, Taps: 1}, {Girth: 1500, Taps: 2}},
		Healths: [5]int{2, 2, 2, 2, 2},
		Open:    5,
	}
}

// treeWith and rulesWith change what the examples have.
func treeWith(change func(t *api.Tree)) api.Tree {
	t := oldTree()
	change(&t)
	return t
}

func rulesWith(change func(r *api.TapRules)) api.TapRules {
	l := usual()
	change(&l)
	return l
}

// round is a trunk on which a tenth of a degree is a millimetre long, with holes of the year 20; it does not grow.
func round(holes ...api.Hole) api.Tree {
	return api.Tree{Year: 20, Girth: one(api.Turn), Health: 2, Holes: holes}
}

// plain are rules without what is not known: each hole forbids side - 1 to each side at its height, for 8 years, and as many taps as may be can stand.
func plain(side, apart int) api.TapRules {
	return api.TapRules{
		Side: one(side), Up: one(1), Heal: one(8), Apart: apart, Between: r(0, api.MaxHigh),
		Sizes:   []api.Size{{Girth: 1, Taps: api.MaxTaps}},
		Healths: [5]int{20, 20, 20, 20, 20},
		Open:    api.MaxHoles,
	}
}

// dice returns numbers that are the same in each run.
func dice() *rand.Rand { return rand.New(rand.NewPCG(1, 13)) }

// pick returns a number from a to b.
func pick(d *rand.Rand, a, b int) int { return a + d.IntN(b-a+1) }

// near returns a narrow range from a number up to a limit.
func near(d *rand.Rand, a, b, width, limit int) api.Range {
	x := pick(d, a, b)
	return r(x, min(x+pick(d, 0, width), limit))
}

// anyTree returns a tree about whose ranges all truths can be tried.
func anyTree(d *rand.Rand) api.Tree {
	t := api.Tree{Year: pick(d, 18, 21), Health: pick(d, 0, api.MaxHealth), Grow: near(d, 0, 3, 1, 5)}
	t.Girth = near(d, 1, []int{9, 200, 3000}[d.IntN(3)], 4, api.MaxGirth)
	for range pick(d, 0, 4) {
		t.Holes = append(t.Holes, hole(pick(d, 14, 24), pick(d, 0, api.Turn-1), pick(d, 1000, 1010)))
	}
	return t
}

// anyRules returns rules for such trees.
func anyRules(d *rand.Rand) api.TapRules {
	l := api.TapRules{
		Side: near(d, 0, []int{3, 80, 900}[d.IntN(3)], 3, api.MaxReach), Up: near(d, 0, 6, 3, 9), Heal: near(d, 0, 6, 3, 9),
		Apart: pick(d, 1, []int{9, 300, 3000}[d.IntN(3)]), Between: r(pick(d, 995, 1003), pick(d, 1003, 1010)), Open: pick(d, 0, 6),
	}
	girth, taps := 0, 0
	for range pick(d, 0, 4) {
		girth, taps = girth+pick(d, 1, 700), min(taps+pick(d, 0, 3), api.MaxTaps)
		l.Sizes = append(l.Sizes, api.Size{Girth: girth, Taps: taps})
	}
	for i := range l.Healths {
		l.Healths[i] = pick(d, 0, 5)
	}
	return l
}

// numbers returns all numbers of a range.
func numbers(a api.Range) []int {
	var l []int
	for n := a.Low; n <= a.High; n++ {
		l = append(l, n)
	}
	return l
}

// girths returns all girths that a tree can have in a year.
func girths(t api.Tree, year int) []int {
	years := year - t.Year
	return numbers(r(min(t.Girth.Low+years*t.Grow.Low, api.MaxGirth), min(t.Girth.High+years*t.Grow.High, api.MaxGirth)))
}

// turnBetween goes around the trunk both ways.
func turnBetween(a, b int) int {
	return min((a-b+api.Turn)%api.Turn, (b-a+api.Turn)%api.Turn)
}

// truths tells of a hole in how many truths it is asked for a spot, and in how many of them it forbids it.
func truths(t api.Tree, l api.TapRules, year int, h api.Hole, s api.Spot) (all, forbidden int) {
	turn, rise := turnBetween(h.Spot.Angle, s.Angle), h.Spot.Height-s.Height
	for _, girth := range girths(t, year) {
		for _, side := range numbers(l.Side) {
			for _, up := range numbers(l.Up) {
				for _, heal := range numbers(l.Heal) {
					all++
					if year-h.Year < heal && turn*girth < api.Turn*side && -up < rise && rise < up {
						forbidden++
					}
				}
			}
		}
	}
	return all, forbidden
}

// has reports whether a number is in a set.
func has(set []api.Range, n int) bool {
	return slices.ContainsFunc(set, func(a api.Range) bool { return a.Low <= n && n <= a.High })
}

// same reports what a call returned if it is not what is wanted.
func same[T comparable](t *testing.T, what string, got T, e api.Errno, want T, wantErr api.Errno) {
	t.Helper()
	if got != want || e != wantErr {
		t.Errorf("%s: %v, error %d; want %v, error %d", what, got, e, want, wantErr)
	}
}

// sameList is same for lists, of which nil and empty ones are the same.
func sameList[T comparable](t *testing.T, what string, got []T, e api.Errno, want []T, wantErr api.Errno) {
	t.Helper()
	if !slices.Equal(got, want) || e != wantErr {
		t.Errorf("%s: %v, error %d; want %v, error %d", what, got, e, want, wantErr)
	}
}

// samePlan is same for plans.
func samePlan(t *testing.T, what string, got [][]api.Spot, at int, e api.Errno, want [][]api.Spot, wantAt int, wantErr api.Errno) {
	t.Helper()
	if !slices.EqualFunc(got, want, slices.Equal[[]api.Spot]) || at != wantAt || e != wantErr {
		t.Errorf("%s: %v, at %d, error %d; want %v, at %d, error %d", what, got, at, e, want, wantAt, wantErr)
	}
}

// noFault is what Verify returns if no tap breaks a rule.
var noFault = [3]int{-1, 0, 0}
