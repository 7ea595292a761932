package thaw_test

import (
	"math/rand/v2"
	"slices"
	"testing"

	"spile/api"
	"spile/thaw"
)

const (
	low  = -1 << 63
	high = 1<<63 - 1
)

// The kinds of hours, and what can be seen of them, by short names.
const (
	fr = api.HourFreeze
	st = api.HourStill
	th = api.HourThaw

	un  = api.SeenNothing
	dry = api.SeenDry
	run = api.SeenRun
)

// r returns a range, and one returns the range of one number.
func r(low, high int) api.Range { return api.Range{Low: low, High: high} }

func one(n int) api.Range { return r(n, n) }

func set(l ...api.Range) []api.Range { return l }

func state(charge, ice int) api.ThawState { return api.ThawState{Charge: charge, Ice: ice} }

func states(l ...api.ThawState) []api.ThawState { return l }

func course(l ...api.HourKind) []api.HourKind { return l }

func seen(l ...api.Seen) []api.Seen { return l }

func group(taps, low, high int) api.TapGroup { return api.TapGroup{Taps: taps, Vacuum: r(low, high)} }

func groups(l ...api.TapGroup) []api.TapGroup { return l }

// times returns a list of so many equal things.
func times[T any](n int, x T) []T { return slices.Repeat([]T{x}, n) }

// usual are the rules of the chapter's examples, and spring is the weather of one of them.
func usual() api.ThawRules {
	return api.ThawRules{Frost: -10, Thaw: 20, Gain: 2, Full: 5, Ice: 1, Most: 3, Melt: 2, Rate: r(500, 800), Pull: 1}
}

func spring() []api.Range { return append(set(r(-30, -5)), times(4, one(50))...) }

// rulesWith changes what the usual rules have.
func rulesWith(change func(l *api.ThawRules)) api.ThawRules {
	l := usual()
	change(&l)
	return l
}

// greatest are rules with all numbers as great as they can be.
func greatest() api.ThawRules {
	return api.ThawRules{Frost: 600, Thaw: 600, Gain: 60, Full: 60, Ice: 30, Most: 30, Melt: 30, Rate: one(100000), Pull: 100}
}

// cold, mild and warm are hours of just one kind by the usual rules; any hour of the other ones can have two kinds or all three.
var (
	cold    = one(-30)
	mild    = one(5)
	warm    = one(50)
	coldish = r(-30, 5)
	warmish = r(5, 50)
	unknown = r(-30, 50)
)

// dice returns numbers that are the same in each run.
func dice() *rand.Rand { return rand.New(rand.NewPCG(1, 13)) }

// pick returns a number from a to b.
func pick(d *rand.Rand, a, b int) int { return a + d.IntN(b-a+1) }

// near returns a narrow range from a number on.
func near(d *rand.Rand, a, b, width int) api.Range {
	x := pick(d, a, b)
	return r(x, x+pick(d, 0, width))
}

// anyRules returns rules with small numbers, so that all that can happen happens in few hours.
func anyRules(d *rand.Rand) api.ThawRules {
	l := api.ThawRules{Frost: pick(d, -3, 3), Gain: few(d, 3), Full: few(d, 5), Ice: pick(d, 0, 2), Most: pick(d, 0, 3), Melt: few(d, 3), Pull: pick(d, 0, 100), Rate: near(d, 0, 900, 300)}
	l.Thaw = l.Frost + pick(d, 0, 3)
	return l
}

// few returns a number up to another one that is seldom 0.
func few(d *rand.Rand, most int) int {
	if d.IntN(12) == 0 {
		return 0
	}
	return pick(d, 1, most)
}

// anyState returns a state that is valid with rules, mostly without much ice.
func anyState(d *rand.Rand, l api.ThawRules) api.ThawState {
	return state(pick(d, 0, l.Full), max(0, pick(d, -3, l.Most)))
}

// anyWeather returns weather of so many hours, of which about so many can have several kinds by such rules.
func anyWeather(d *rand.Rand, hours, several int) []api.Range {
	var w []api.Range
	for range hours {
		if d.IntN(hours) < several {
			w = append(w, near(d, -7, 5, 6))
		} else {
			w = append(w, one(pick(d, -8, 11)))
		}
	}
	return w
}

// kindAt tells what an hour with one temperature does.
func kindAt(l api.ThawRules, t int) api.HourKind {
	switch {
	case t < l.Frost:
		return fr
	case t > l.Thaw:
		return th
	}
	return st
}

// kindsOf tries all temperatures of a range.
func kindsOf(l api.ThawRules, a api.Range) []api.HourKind {
	var kinds []api.HourKind
	for t := a.Low; t <= a.High; t++ {
		if k := kindAt(l, t); !slices.Contains(kinds, k) {
			kinds = append(kinds, k)
		}
	}
	slices.Sort(kinds)
	return kinds
}

// hourOf tells what an hour does to a state, one by one.
func hourOf(l api.ThawRules, s api.ThawState, k api.HourKind) (next api.ThawState, runs bool) {
	switch k {
	case fr:
		for i := 0; i < l.Gain && s.Charge < l.Full; i++ {
			s.Charge++
		}
		for i := 0; i < l.Ice && s.Ice < l.Most; i++ {
			s.Ice++
		}
	case th:
		if s.Ice == 0 {
			runs = s.Charge > 0
			if runs {
				s.Charge--
			}
			return s, runs
		}
		for i := 0; i < l.Melt && s.Ice > 0; i++ {
			s.Ice--
		}
	}
	return s, false
}

// truth is a course that the weather allows, and what it truly comes to.
type truth struct {
	course []api.HourKind
	runs   []bool
	end    api.ThawState
}

// truths returns all courses that the weather allows, from the smallest list to the greatest.
func truths(l api.ThawRules, s api.ThawState, w []api.Range) []truth {
	all := []truth{{end: s}}
	for _, t := range w {
		var longer []truth
		for _, x := range all {
			for _, k := range kindsOf(l, t) {
				end, runs := hourOf(l, x.end, k)
				longer = append(longer, truth{append(slices.Clip(x.course), k), append(slices.Clip(x.runs), runs), end})
			}
		}
		all = longer
	}
	return all
}

// hoursFrom counts the hours from a number on, up to another one, in which sap runs.
func (x truth) hoursFrom(from, to int) int {
	n := 0
	for _, runs := range x.runs[from:to] {
		if runs {
			n++
		}
	}
	return n
}

// hours counts all hours in which sap runs.
func (x truth) hours() int { return x.hoursFrom(0, len(x.runs)) }

// fits reports whether a course fits what was seen of its first hours.
func (x truth) fits(l []api.Seen) bool {
	for hour, seen := range l {
		if seen == dry && x.runs[hour] || seen == run && !x.runs[hour] {
			return false
		}
	}
	return true
}

// hull returns the least and the greatest one of numbers; of none 0 to 0.
func hull(l []int) api.Range {
	if len(l) == 0 {
		return r(0, 0)
	}
	return r(slices.Min(l), slices.Max(l))
}

// countAll returns a number of each truth.
func countAll(all []truth, number func(x truth) int) []int {
	var l []int
	for _, x := range all {
		l = append(l, number(x))
	}
	return l
}

// inside reports whether a range lies in another one.
func inside(a, b api.Range) bool { return b.Low <= a.Low && a.High <= b.High }

// allFrom asks for the ends of weather from several states, and brings them together in ascending order.
func allFrom(t *testing.T, l api.ThawRules, from []api.ThawState, w []api.Range) []api.ThawState {
	t.Helper()
	var all []api.ThawState
	for _, s := range from {
		ends, e := thaw.Ends(l, s, w)
		if e != api.OK {
			t.Fatal("Ends", l, s, w, e)
		}
		all = append(all, ends...)
	}
	return sortedStates(all)
}

// sortedStates returns states in ascending order, each once.
func sortedStates(l []api.ThawState) []api.ThawState {
	slices.SortFunc(l, func(a, b api.ThawState) int {
		if a.Charge != b.Charge {
			return a.Charge - b.Charge
		}
		return a.Ice - b.Ice
	})
	return slices.Compact(l)
}

// same reports what a call returned if it is not what is wanted.
func same[T comparable](t *testing.T, what string, got T, e api.Errno, want T, wantErr api.Errno) {
	t.Helper()
	if got != want || e != wantErr {
		t.Errorf("%s: %v, error %d; want %v, error %d", what, got, e, want, wantErr)
	}
}

// sameList is same for lists, of which nil and empty ones are the same.
func sameList[T comparable](t *testing.T, what string, got []T, e api.Errno, want []T, wantErr api.Errno) {
	t.Helper()
	if !slices.Equal(got, want) || e != wantErr {
		t.Errorf("%s: %v, error %d; want %v, error %d", what, got, e, want, wantErr)
	}
}

// sameFirst asks First, and sameFit asks Fits.
func sameFirst(t *testing.T, what string, l api.ThawRules, s api.ThawState, w []api.Range, want [2]int, wantErr api.Errno) {
	t.Helper()
	possibly, surely, e := thaw.First(l, s, w)
	same(t, "First: "+what, [2]int{possibly, surely}, e, want, wantErr)
}

func sameFit(t *testing.T, what string, l api.ThawRules, s api.ThawState, w []api.Range, looked []api.Seen, at int, hours api.Range, wantErr api.Errno) {
	t.Helper()
	gotAt, got, e := thaw.Fits(l, s, w, looked)
	same(t, "Fits: "+what, [3]int{gotAt, got.Low, got.High}, e, [3]int{at, hours.Low, hours.High}, wantErr)
}
