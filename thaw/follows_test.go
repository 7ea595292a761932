package thaw_test

import (
	"fmt"
	"math/rand/v2"
	"slices"
	"testing"

	"spile/api"
	"spile/thaw"
)

// bushAt is rules, a state and weather.
type bushAt struct {
	l api.ThawRules
	s api.ThawState
	w []api.Range
}

// anyBush returns one with so many hours.
func anyBush(d *rand.Rand, hours int) bushAt {
	l := anyRules(d)
	return bushAt{l, anyState(d, l), anyWeather(d, hours, pick(d, 0, hours))}
}

// anyCourse returns a course that the weather allows.
func (b bushAt) anyCourse(d *rand.Rand) []api.HourKind {
	var l []api.HourKind
	for _, t := range b.w {
		l = append(l, kindAt(b.l, pick(d, t.Low, t.High)))
	}
	return l
}

// count counts the hours in which sap runs.
func count(runs []bool) int {
	n := 0
	for _, ran := range runs {
		if ran {
			n++
		}
	}
	return n
}

// look tells what is seen of some hours of a course.
func look(d *rand.Rand, runs []bool) []api.Seen {
	var l []api.Seen
	for _, ran := range runs {
		switch {
		case d.IntN(2) == 0:
			l = append(l, un)
		case ran:
			l = append(l, run)
		default:
			l = append(l, dry)
		}
	}
	return l
}

// has reports whether a number lies in a range.
func has(a api.Range, n int) bool { return a.Low <= n && n <= a.High }

func TestP4_9EveryCourse(t *testing.T) {
	d := dice()
	for range 300 {
		b := anyBush(d, pick(d, 0, 150))
		all, e := thaw.Runs(b.l, b.s, b.w)
		ends, f := thaw.Ends(b.l, b.s, b.w)
		daily, g := thaw.Daily(b.l, b.s, b.w)
		if e != api.OK || f != api.OK || g != api.OK {
			t.Fatal(b, e, f, g)
		}
		for range 10 {
			l := b.anyCourse(d)
			runs, end, e := thaw.Course(b.l, b.s, l)
			if e != api.OK || !has(all, count(runs)) || !slices.Contains(ends, end) {
				t.Fatal(b, l, "runs", runs, all, "ends", end, ends, e)
			}
			day := 0
			for hours := range slices.Chunk(runs, 24) {
				if !has(daily[day], count(hours)) {
					t.Fatal(b, l, "runs on the day", day, hours, daily)
				}
				day++
			}
			if day != len(daily) {
				t.Fatal(b, "has", len(daily), "days")
			}
			looked := look(d, runs)
			at, hours, e := thaw.Fits(b.l, b.s, b.w, looked)
			if e != api.OK || at != -1 || !has(hours, count(runs)) || !inside(hours, all) {
				t.Fatal(b, l, "does not fit", looked, at, hours, e)
			}
		}
	}
}

func TestP4_9Extreme(t *testing.T) {
	d := dice()
	for range 300 {
		b := anyBush(d, pick(d, 0, 150))
		all, e := thaw.Runs(b.l, b.s, b.w)
		for most, want := range map[bool]int{false: all.Low, true: all.High} {
			l, f := thaw.Extreme(b.l, b.s, b.w, most)
			runs, _, g := thaw.Course(b.l, b.s, l)
			if e != api.OK || f != api.OK || g != api.OK || len(l) != len(b.w) || count(runs) != want {
				t.Fatal(b, most, l, runs, want, e, f, g)
			}
			for hour, k := range l {
				if kinds, _ := thaw.Kinds(b.l, b.w[hour]); !slices.Contains(kinds, k) {
					t.Fatal(b, most, l, "is not allowed at", hour)
				}
			}
		}
	}
}

func TestP4_10NothingFromNothing(t *testing.T) {
	d := dice()
	just := 0
	for range 3000 {
		b := anyBush(d, pick(d, 0, 60))
		l := b.anyCourse(d)
		runs, _, e := thaw.Course(b.l, b.s, l)
		given := b.s.Charge
		for _, k := range l {
			if k == fr {
				given += b.l.Gain
			}
		}
		if e != api.OK || count(runs) > given {
			t.Fatal(b, l, runs, given, e)
		}
		if given > 0 && count(runs) == given {
			just++
		}
	}
	if just < 50 {
		t.Error("too few courses use all that is given:", just)
	}
}

// narrow returns weather that is known better.
func (b bushAt) narrow(d *rand.Rand) bushAt {
	b.w = slices.Clone(b.w)
	for i, t := range b.w {
		a, c := pick(d, t.Low, t.High), pick(d, t.Low, t.High)
		if d.IntN(2) == 0 {
			b.w[i] = r(min(a, c), max(a, c))
		}
	}
	return b
}

// earlier reports whether an hour is before another one or is this one; -1 is never.
func earlier(a, b int) bool { return b == -1 || a != -1 && a <= b }

func TestP4_10KnownBetter(t *testing.T) {
	d := dice()
	better := 0
	for range 2000 {
		b := anyBush(d, pick(d, 0, 60))
		c := b.narrow(d)
		what := fmt.Sprint(b, c)
		wide, _ := thaw.Runs(b.l, b.s, b.w)
		runs, e := thaw.Runs(c.l, c.s, c.w)
		if e != api.OK || !inside(runs, wide) {
			t.Fatal(what, runs, wide, e)
		}
		if runs != wide {
			better++
		}
		all, _ := thaw.Ends(b.l, b.s, b.w)
		ends, e := thaw.Ends(c.l, c.s, c.w)
		if e != api.OK || len(ends) == 0 || slices.ContainsFunc(ends, func(s api.ThawState) bool { return !slices.Contains(all, s) }) {
			t.Fatal(what, ends, all, e)
		}
		days, _ := thaw.Daily(b.l, b.s, b.w)
		daily, e := thaw.Daily(c.l, c.s, c.w)
		for i, a := range daily {
			if e != api.OK || len(daily) != len(days) || !inside(a, days[i]) {
				t.Fatal(what, daily, days, e)
			}
		}
		possibly, surely, _ := thaw.First(b.l, b.s, b.w)
		p, s, e := thaw.First(c.l, c.s, c.w)
		if e != api.OK || !earlier(possibly, p) || !earlier(s, surely) || !earlier(p, s) {
			t.Fatal(what, p, s, possibly, surely, e)
		}
		ran, _, _ := thaw.Course(c.l, c.s, c.anyCourse(d))
		looked := look(d, ran)
		_, wide, _ = thaw.Fits(b.l, b.s, b.w, looked)
		at, hours, e := thaw.Fits(c.l, c.s, c.w, looked)
		if e != api.OK || at != -1 || !inside(hours, wide) {
			t.Fatal(what, looked, hours, wide, at, e)
		}
	}
	if better < 500 {
		t.Error("too few cases in which less can be:", better)
	}
}

func TestP4_11OneAfterAnother(t *testing.T) {
	d := dice()
	for range 600 {
		b := anyBush(d, pick(d, 0, 60))
		at := pick(d, 0, len(b.w))
		between, e := thaw.Ends(b.l, b.s, b.w[:at])
		if e != api.OK {
			t.Fatal(b, e)
		}
		ends, e := thaw.Ends(b.l, b.s, b.w)
		sameList(t, fmt.Sprint("Ends ", b, at), ends, e, allFrom(t, b.l, between, b.w[at:]), api.OK)
	}
	l := greatest()
	l.Frost, l.Thaw, l.Gain, l.Ice, l.Melt = 0, 0, 1, 1, 1
	w := times(105, r(-5, 5))
	between, e := thaw.Ends(l, state(0, 0), w[:100])
	if e != api.OK || len(between) < 1000 {
		t.Fatal("too few ends", len(between), e)
	}
	ends, e := thaw.Ends(l, state(0, 0), w)
	sameList(t, "Ends of all states", ends, e, allFrom(t, l, between, w[100:]), api.OK)
}

// known is a state, and in how many hours sap has run.
type known struct {
	s     api.ThawState
	hours int
}

// allKnown follows all that can be known behind the hours, one by one; it keeps those that fit.
func (b bushAt) allKnown(looked []api.Seen) (at int, all map[known]bool) {
	all = map[known]bool{{s: b.s}: true}
	for hour, t := range b.w {
		later := map[known]bool{}
		for x := range all {
			for _, k := range kindsOf(b.l, t) {
				next, runs := hourOf(b.l, x.s, k)
				if runs && looked[hour] != dry {
					later[known{next, x.hours + 1}] = true
				} else if !runs && looked[hour] != run {
					later[known{next, x.hours}] = true
				}
			}
		}
		if len(later) == 0 {
			return hour, nil
		}
		all = later
	}
	return -1, all
}

// TestP4_3LongWeather shows P4.3 and P4.6 for weather that has too many courses to list them.
func TestP4_3LongWeather(t *testing.T) {
	d := dice()
	for range 60 {
		b := anyBush(d, pick(d, 50, 150))
		what := fmt.Sprint(b)
		_, all := b.allKnown(times(len(b.w), un))
		var hours []int
		var ends []api.ThawState
		for x := range all {
			hours, ends = append(hours, x.hours), append(ends, x.s)
		}
		runs, e := thaw.Runs(b.l, b.s, b.w)
		same(t, "Runs "+what, runs, e, hull(hours), api.OK)
		got, e := thaw.Ends(b.l, b.s, b.w)
		sameList(t, "Ends "+what, got, e, sortedStates(ends), api.OK)
		ran, _, _ := thaw.Course(b.l, b.s, b.anyCourse(d))
		looked := look(d, ran)
		if d.IntN(2) == 0 {
			looked[pick(d, 0, len(looked)-1)] = run
		}
		at, fit := b.allKnown(looked)
		hours = nil
		for x := range fit {
			hours = append(hours, x.hours)
		}
		sameFit(t, what+fmt.Sprint(looked), b.l, b.s, b.w, looked, at, hull(hours), api.OK)
	}
}

// TestP4_3Greatest has as many hours, and as great states, as there can be.
func TestP4_3Greatest(t *testing.T) {
	l := greatest()
	l.Frost, l.Thaw, l.Gain, l.Ice, l.Melt = 0, 0, 1, 1, 1
	ends, e := thaw.Ends(l, state(60, 30), nil)
	sameList(t, "Ends of no hours", ends, e, states(state(60, 30)), api.OK)
	ends, e = thaw.Ends(l, state(60, 30), times(1000, one(-600)))
	sameList(t, "Ends of frost", ends, e, states(state(60, 30)), api.OK)
	ends, e = thaw.Ends(l, state(60, 30), times(1000, one(600)))
	sameList(t, "Ends of thaw", ends, e, states(state(0, 0)), api.OK)
	runs, e := thaw.Runs(l, state(60, 30), times(1000, one(600)))
	same(t, "Runs of thaw", runs, e, r(60, 60), api.OK)
	// 60 hours of frost charge 60, and bring ice that melts in 30 hours: sap runs in 60 hours of 150, and in 35 of the last 100.
	w := times(1000, r(-600, 600))
	runs, e = thaw.Runs(l, state(0, 0), w)
	same(t, "Runs of anything", runs, e, r(0, 395), api.OK)
	ends, e = thaw.Ends(l, state(60, 30), w)
	// As no run leaves ice, and no hour brings more ice than charge, there is never more ice than charge.
	if e != api.OK || len(ends) != 61*31-30*31/2 || ends[0] != state(0, 0) || ends[len(ends)-1] != state(60, 30) {
		t.Error("Ends of anything", len(ends), e)
	}
	kinds, e := thaw.Extreme(l, state(60, 30), w, false)
	sameList(t, "the least course", kinds, e, times(1000, fr), api.OK)
	kinds, e = thaw.Extreme(l, state(0, 0), w, true)
	ran, _, f := thaw.Course(l, state(0, 0), kinds)
	if e != api.OK || f != api.OK || count(ran) != 395 {
		t.Error("the greatest course", kinds, count(ran), e, f)
	}
	// An hour of frost for 60 of running gives the most hours that there can be.
	l.Gain, l.Ice = 60, 0
	w = slices.Repeat(append(times(60, one(600)), one(-600)), 17)[:1000]
	runs, e = thaw.Runs(l, state(60, 0), w)
	same(t, "Runs of the most hours", runs, e, one(984), api.OK)
	sameFit(t, "the most hours", l, state(60, 0), w, times(1000, un), -1, one(984), api.OK)
	w[999] = r(-600, 600)
	runs, e = thaw.Runs(l, state(60, 0), w)
	same(t, "Runs of the most hours but one", runs, e, r(983, 984), api.OK)
	// With a charge of 1 for 999 still hours and one that may thaw, the last hour is the one that runs.
	kinds, e = thaw.Extreme(usual(), state(1, 0), times(1000, warmish), true)
	sameList(t, "the greatest course of one run", kinds, e, append(times(999, st), th), api.OK)
}
