package thaw_test

import (
	"fmt"
	"slices"
	"testing"

	"spile/api"
	"spile/thaw"
)

// whether is a case: rules that are changed, a state, and weather.
type whether struct {
	change func(l *api.ThawRules)
	s      api.ThawState
	w      []api.Range
}

// rules returns the rules of a case.
func (c whether) rules() api.ThawRules {
	if c.change == nil {
		return usual()
	}
	return rulesWith(c.change)
}

// noIce are rules in which no ice grows.
func noIce(l *api.ThawRules) { l.Ice = 0 }

func TestP4_3RunsAndEnds(t *testing.T) {
	for i, c := range []struct {
		whether
		runs api.Range
		ends []api.ThawState
	}{
		{whether{nil, state(0, 0), nil}, r(0, 0), states(state(0, 0))},
		{whether{nil, state(5, 3), nil}, r(0, 0), states(state(5, 3))},
		{whether{nil, state(0, 0), spring()}, r(0, 2), states(state(0, 0))},
		{whether{nil, state(1, 0), set(warm)}, r(1, 1), states(state(0, 0))},
		{whether{nil, state(1, 0), set(warmish)}, r(0, 1), states(state(0, 0), state(1, 0))},
		{whether{nil, state(1, 0), set(mild)}, r(0, 0), states(state(1, 0))},
		{whether{nil, state(1, 0), set(cold)}, r(0, 0), states(state(3, 1))},
		{whether{nil, state(1, 0), set(unknown)}, r(0, 1), states(state(0, 0), state(1, 0), state(3, 1))},
		// Sap surely never runs without a charge, behind ice that never melts, and without a warm hour.
		{whether{nil, state(0, 0), times(9, warmish)}, r(0, 0), states(state(0, 0))},
		{whether{func(l *api.ThawRules) { l.Full = 0 }, state(0, 0), times(9, unknown)}, r(0, 0), states(state(0, 0), state(0, 1), state(0, 2), state(0, 3))},
		{whether{func(l *api.ThawRules) { l.Melt = 0 }, state(5, 1), times(9, warmish)}, r(0, 0), states(state(5, 1))},
		{whether{nil, state(5, 0), times(9, coldish)}, r(0, 0), states(state(5, 0), state(5, 1), state(5, 2), state(5, 3))},
		// It possibly never runs, or runs out of its charge.
		{whether{nil, state(5, 0), times(2, unknown)}, r(0, 2), states(state(3, 0), state(4, 0), state(5, 0), state(5, 1), state(5, 2))},
		{whether{nil, state(2, 0), times(9, warm)}, r(2, 2), states(state(0, 0))},
		{whether{noIce, state(0, 0), append(set(coldish, unknown), times(3, warm)...)}, r(0, 3), states(state(0, 0), state(1, 0))},
		// Two states are the same only if their ice is.
		{whether{func(l *api.ThawRules) { l.Gain = 0 }, state(2, 0), set(coldish, coldish)}, r(0, 0), states(state(2, 0), state(2, 1), state(2, 2))},
		{whether{func(l *api.ThawRules) { l.Frost = 20 }, state(1, 0), set(r(19, 21))}, r(0, 1), states(state(0, 0), state(1, 0), state(3, 1))},
	} {
		runs, e := thaw.Runs(c.rules(), c.s, c.w)
		same(t, fmt.Sprint("Runs ", i), runs, e, c.runs, api.OK)
		ends, e := thaw.Ends(c.rules(), c.s, c.w)
		sameList(t, fmt.Sprint("Ends ", i), ends, e, c.ends, api.OK)
	}
}

func TestP4_3Extreme(t *testing.T) {
	for i, c := range []struct {
		whether
		least, most []api.HourKind
	}{
		{whether{nil, state(5, 0), nil}, nil, nil},
		{whether{nil, state(0, 0), spring()}, course(2, 3, 3, 3, 3), course(1, 3, 3, 3, 3)},
		{whether{nil, state(1, 0), set(warmish)}, course(2), course(3)},
		// Of several ones the smallest list is the one.
		{whether{nil, state(0, 0), set(unknown)}, course(1), course(1)},
		{whether{nil, state(0, 0), times(3, warmish)}, course(2, 2, 2), course(2, 2, 2)},
		{whether{nil, state(1, 0), times(3, warmish)}, course(2, 2, 2), course(2, 2, 3)},
		{whether{nil, state(1, 0), times(2, unknown)}, course(1, 1), course(2, 3)},
		{whether{noIce, state(1, 0), times(2, unknown)}, course(1, 1), course(1, 3)},
		{whether{noIce, state(1, 0), times(3, unknown)}, course(1, 1, 1), course(1, 3, 3)},
		{whether{noIce, state(0, 0), times(4, unknown)}, course(1, 1, 1, 1), course(1, 1, 3, 3)},
		{whether{nil, state(2, 0), append(times(2, coldish), times(3, warm)...)}, course(1, 1, 3, 3, 3), course(1, 1, 3, 3, 3)},
		{whether{nil, state(3, 0), append(times(2, coldish), times(3, warm)...)}, course(1, 1, 3, 3, 3), course(2, 2, 3, 3, 3)},
		// What is best at once is not best later: a run now, or less ice for those later.
		{whether{func(l *api.ThawRules) { l.Melt = 1 }, state(3, 1), set(r(5, 50), r(-30, 5), warm, warm)}, course(2, 1, 3, 3), course(3, 2, 3, 3)},
		{whether{func(l *api.ThawRules) { l.Gain, l.Full = 1, 1 }, state(1, 0), set(warmish, coldish, warm)}, course(2, 1, 3), course(2, 2, 3)},
		{whether{func(l *api.ThawRules) { l.Gain, l.Full, l.Ice = 1, 1, 0 }, state(1, 0), set(warmish, coldish, warm)}, course(2, 1, 3), course(3, 1, 3)},
	} {
		l := c.rules()
		for _, most := range []bool{false, true} {
			want := c.least
			if most {
				want = c.most
			}
			kinds, e := thaw.Extreme(l, c.s, c.w, most)
			sameList(t, fmt.Sprint("Extreme ", i, most), kinds, e, want, api.OK)
		}
	}
}

// TestP4_3AllCourses also shows P4.9.
func TestP4_3AllCourses(t *testing.T) {
	d := dice()
	several, wide := 0, 0
	for range 1500 {
		l := anyRules(d)
		s, w := anyState(d, l), anyWeather(d, pick(d, 0, 8), pick(d, 1, 6))
		what := fmt.Sprint(l, s, w)
		all := truths(l, s, w)
		want := hull(countAll(all, truth.hours))
		runs, e := thaw.Runs(l, s, w)
		same(t, "Runs "+what, runs, e, want, api.OK)
		var ends []api.ThawState
		for _, x := range all {
			ends = append(ends, x.end)
		}
		got, e := thaw.Ends(l, s, w)
		sameList(t, "Ends "+what, got, e, sortedStates(ends), api.OK)
		for most, hours := range map[bool]int{false: want.Low, true: want.High} {
			first := slices.IndexFunc(all, func(x truth) bool { return x.hours() == hours })
			kinds, e := thaw.Extreme(l, s, w, most)
			sameList(t, fmt.Sprint("Extreme ", what, most), kinds, e, all[first].course, api.OK)
			if first > 0 {
				several++
			}
		}
		if want.High > want.Low {
			wide++
		}
	}
	if several < 300 || wide < 300 {
		t.Error("too few cases tell something:", several, wide)
	}
}

func TestP4_4Daily(t *testing.T) {
	days := func(l ...[]api.Range) []api.Range { return slices.Concat(l...) }
	for i, c := range []struct {
		whether
		want []api.Range
	}{
		{whether{nil, state(5, 0), nil}, nil},
		{whether{nil, state(5, 0), set(warm)}, set(r(1, 1))},
		{whether{nil, state(5, 0), times(23, warm)}, set(r(5, 5))},
		{whether{nil, state(5, 0), times(24, warm)}, set(r(5, 5))},
		{whether{nil, state(5, 0), times(25, warm)}, set(r(5, 5), r(0, 0))},
		{whether{nil, state(5, 0), times(48, mild)}, set(r(0, 0), r(0, 0))},
		// The hour 23 is of the first day, the hour 24 of the second one.
		{whether{nil, state(5, 0), days(times(23, mild), set(warm))}, set(r(1, 1))},
		{whether{nil, state(5, 0), days(times(24, mild), set(warm))}, set(r(0, 0), r(1, 1))},
		{whether{nil, state(5, 0), days(times(23, mild), set(warm, warm))}, set(r(1, 1), r(1, 1))},
		{whether{nil, state(5, 0), days(times(22, mild), times(3, warm), times(23, mild), times(2, warm))}, set(r(2, 2), r(1, 1), r(2, 2))},
		// Each range is by itself: what runs on one day does not run on the other one.
		{whether{nil, state(1, 0), times(48, warmish)}, set(r(0, 1), r(0, 1))},
		{whether{nil, state(3, 0), times(49, warmish)}, set(r(0, 3), r(0, 3), r(0, 1))},
		{whether{nil, state(0, 0), days(set(coldish), times(23, mild), times(3, warm))}, set(r(0, 0), r(0, 2))},
		{whether{nil, state(1, 0), days(set(coldish, warm), times(22, mild), times(4, warm))}, set(r(0, 1), r(0, 3))},
		{whether{noIce, state(0, 0), times(24, unknown)}, set(r(0, 16))},
	} {
		daily, e := thaw.Daily(c.rules(), c.s, c.w)
		sameList(t, fmt.Sprint("Daily ", i), daily, e, c.want, api.OK)
	}
	daily, e := thaw.Daily(usual(), state(5, 0), times(1000, warm))
	sameList(t, "42 days", daily, e, append(set(r(5, 5)), times(41, r(0, 0))...), api.OK)
}

// TestP4_4AllCourses also shows P4.9.
func TestP4_4AllCourses(t *testing.T) {
	d := dice()
	apart := 0
	for range 900 {
		l := anyRules(d)
		s, w := anyState(d, l), times(pick(d, 0, 75), one(l.Frost))
		for i, t := range anyWeather(d, min(9, len(w)), 6) {
			w[(i*8+pick(d, 0, 7))%len(w)] = t
		}
		all := truths(l, s, w)
		var want []api.Range
		sum := r(0, 0)
		for from := 0; from < len(w); from += 24 {
			want = append(want, hull(countAll(all, func(x truth) int { return x.hoursFrom(from, min(from+24, len(w))) })))
			sum = r(sum.Low+want[from/24].Low, sum.High+want[from/24].High)
		}
		daily, e := thaw.Daily(l, s, w)
		sameList(t, fmt.Sprint("Daily ", l, s, w), daily, e, want, api.OK)
		if hull(countAll(all, truth.hours)) != sum {
			apart++
		}
	}
	if apart < 40 {
		t.Error("too few cases in which days depend on each other:", apart)
	}
}

func TestP4_5First(t *testing.T) {
	for i, c := range []struct {
		whether
		want [2]int
	}{
		{whether{nil, state(5, 0), nil}, [2]int{-1, -1}},
		{whether{nil, state(0, 0), spring()}, [2]int{2, -1}},
		{whether{nil, state(5, 0), set(warm)}, [2]int{0, 0}},
		{whether{nil, state(5, 0), set(warmish)}, [2]int{0, -1}},
		{whether{nil, state(5, 0), set(mild, warm)}, [2]int{1, 1}},
		{whether{nil, state(5, 0), set(mild, warmish, coldish)}, [2]int{1, -1}},
		{whether{nil, state(5, 1), set(warm, warm)}, [2]int{1, 1}},
		{whether{nil, state(0, 0), times(3, warm)}, [2]int{-1, -1}},
		{whether{nil, state(5, 0), times(1000, mild)}, [2]int{-1, -1}},
		{whether{nil, state(5, 0), append(times(999, mild), warm)}, [2]int{999, 999}},
		{whether{nil, state(5, 0), append(times(999, mild), warmish)}, [2]int{999, -1}},
		{whether{nil, state(5, 0), set(warmish, mild, warm)}, [2]int{0, 2}},
		// In every course it has run, though there is no hour in which it runs in all of them: with a charge of 1, ran in the hour 0, or in the hour 2.
		{whether{nil, state(1, 0), set(warmish, mild, warm)}, [2]int{0, 2}},
		// Frost may come first; then it runs later.
		{whether{nil, state(1, 0), set(coldish, warm, warm)}, [2]int{1, 2}},
		{whether{nil, state(1, 0), set(coldish, coldish, coldish, warm, warm)}, [2]int{3, -1}},
		{whether{nil, state(1, 0), set(coldish, coldish, coldish, warm, warm, warm)}, [2]int{3, 5}},
	} {
		sameFirst(t, fmt.Sprint(i), c.rules(), c.s, c.w, c.want, api.OK)
	}
}

// TestP4_5AllCourses also shows P4.9.
func TestP4_5AllCourses(t *testing.T) {
	d := dice()
	found := map[[2]bool]int{}
	for range 1500 {
		l := anyRules(d)
		s, w := anyState(d, l), anyWeather(d, pick(d, 0, 9), pick(d, 1, 6))
		all := truths(l, s, w)
		want := [2]int{-1, -1}
		for hour := len(w) - 1; hour >= 0; hour-- {
			ran := hull(countAll(all, func(x truth) int { return x.hoursFrom(0, hour+1) }))
			if ran.High > 0 {
				want[0] = hour
			}
			if ran.Low > 0 {
				want[1] = hour
			}
		}
		sameFirst(t, fmt.Sprint(l, s, w), l, s, w, want, api.OK)
		found[[2]bool{want[0] < want[1], want[1] >= 0}]++
	}
	if found[[2]bool{true, true}] < 50 || found[[2]bool{false, true}] < 50 || found[[2]bool{false, false}] < 50 {
		t.Error("too few cases tell something:", found)
	}
}

func TestP4_6Fits(t *testing.T) {
	for i, c := range []struct {
		whether
		looked []api.Seen
		at     int
		hours  api.Range
	}{
		{whether{nil, state(5, 0), nil}, nil, -1, r(0, 0)},
		{whether{nil, state(0, 0), spring()}, seen(un, un, un, un, run), 4, r(0, 0)},
		{whether{nil, state(0, 0), spring()}, seen(un, un, un, un, un), -1, r(0, 2)},
		{whether{nil, state(0, 0), spring()}, seen(un, un, un, un, dry), -1, r(0, 2)},
		{whether{nil, state(0, 0), spring()}, seen(un, un, run, un, un), -1, r(2, 2)},
		{whether{nil, state(0, 0), spring()}, seen(un, un, un, run, un), -1, r(2, 2)},
		{whether{nil, state(0, 0), spring()}, seen(un, un, dry, un, un), -1, r(0, 0)},
		{whether{nil, state(0, 0), spring()}, seen(dry, dry, run, run, dry), -1, r(2, 2)},
		// No course fits from the first hour on, from a later one, or at the last one.
		{whether{nil, state(0, 0), spring()}, seen(run, un, un, un, un), 0, r(0, 0)},
		{whether{nil, state(0, 0), spring()}, seen(un, run, un, un, un), 1, r(0, 0)},
		{whether{nil, state(0, 0), spring()}, seen(un, un, dry, run, un), 3, r(0, 0)},
		{whether{nil, state(0, 0), spring()}, seen(un, un, run, dry, un), 3, r(0, 0)},
		{whether{nil, state(0, 0), spring()}, seen(run, run, run, run, run), 0, r(0, 0)},
		{whether{nil, state(5, 0), set(warm)}, seen(dry), 0, r(0, 0)},
		{whether{nil, state(5, 0), set(warm)}, seen(run), -1, r(1, 1)},
		{whether{nil, state(5, 0), set(warmish)}, seen(dry), -1, r(0, 0)},
		{whether{nil, state(5, 0), set(warmish)}, seen(run), -1, r(1, 1)},
		{whether{nil, state(5, 0), set(mild)}, seen(run), 0, r(0, 0)},
		{whether{nil, state(5, 0), times(4, warmish)}, seen(un, dry, un, run), -1, r(1, 3)},
		// What is seen later tells of hours before it: it can have run only once of the first two times.
		{whether{nil, state(2, 0), times(3, warmish)}, seen(un, un, run), -1, r(1, 2)},
		{whether{nil, state(2, 0), times(4, warmish)}, seen(un, run, un, run), -1, r(2, 2)},
		{whether{nil, state(5, 0), append(times(999, mild), warm)}, append(times(999, dry), run), -1, r(1, 1)},
		{whether{nil, state(5, 0), append(times(999, mild), warm)}, append(times(999, un), dry), 999, r(0, 0)},
	} {
		sameFit(t, fmt.Sprint(i), c.rules(), c.s, c.w, c.looked, c.at, c.hours, api.OK)
	}
}

func TestP4_6Errors(t *testing.T) {
	for i, c := range []struct {
		w      []api.Range
		looked []api.Seen
		e      api.Errno
	}{
		{spring(), times(5, run+1), api.ErrArg},
		{spring(), times(5, un-1), api.ErrArg},
		{spring(), seen(un, un, un, un, low), api.ErrArg},
		{spring(), seen(high, un, un, un, un), api.ErrArg},
		// The list need not fit up to the wrong element.
		{spring(), seen(run, run, 3, un, un), api.ErrArg},
		{spring(), times(4, un), api.ErrForm},
		{spring(), times(6, un), api.ErrForm},
		{spring(), times(4, run+1), api.ErrForm},
		{spring(), nil, api.ErrForm},
		{nil, seen(un), api.ErrForm},
		{nil, seen(3), api.ErrForm},
		{times(1000, mild), times(1001, un), api.ErrForm},
		{times(1001, mild), times(1000, un), api.ErrLong},
		{set(r(1, 0)), nil, api.ErrArg},
	} {
		sameFit(t, fmt.Sprint("error ", i), usual(), state(0, 0), c.w, c.looked, 0, r(0, 0), c.e)
	}
}

// TestP4_6AllCourses also shows P4.9.
func TestP4_6AllCourses(t *testing.T) {
	d := dice()
	fitting, not := 0, 0
	for range 2500 {
		l := anyRules(d)
		s, w := anyState(d, l), anyWeather(d, pick(d, 0, 8), pick(d, 1, 6))
		all := truths(l, s, w)
		// What is seen is mostly true of some course, so that many hours fit.
		some := all[d.IntN(len(all))]
		var looked []api.Seen
		for _, runs := range some.runs {
			switch {
			case d.IntN(12) == 0:
				looked = append(looked, api.Seen(pick(d, 0, 2)))
			case d.IntN(3) == 0:
				looked = append(looked, un)
			case runs:
				looked = append(looked, run)
			default:
				looked = append(looked, dry)
			}
		}
		what := fmt.Sprint(l, s, w, looked)
		fit := func(upTo int) []truth {
			return slices.DeleteFunc(slices.Clone(all), func(x truth) bool { return !x.fits(looked[:upTo]) })
		}
		at, hours := -1, hull(countAll(fit(len(w)), truth.hours))
		if len(fit(len(w))) == 0 {
			for at = 0; len(fit(at+1)) > 0; at++ {
			}
			not++
		} else if hours != hull(countAll(all, truth.hours)) {
			fitting++
		}
		sameFit(t, what, l, s, w, looked, at, hours, api.OK)
	}
	if fitting < 200 || not < 200 {
		t.Error("too few cases tell something:", fitting, not)
	}
}
