package thaw_test

import (
	"fmt"
	"slices"
	"testing"

	"spile/api"
	"spile/thaw"
)

// goodRules are at the limits, badRules one step beyond one of them.
func goodRules() map[string]api.ThawRules {
	good := map[string]api.ThawRules{"zero": {}, "greatest": greatest()}
	for name, change := range map[string]func(l *api.ThawRules){
		"usual":            func(l *api.ThawRules) {},
		"least frost":      func(l *api.ThawRules) { l.Frost = -600 },
		"frost is thaw":    func(l *api.ThawRules) { l.Frost = 20 },
		"both least":       func(l *api.ThawRules) { l.Frost, l.Thaw = -600, -600 },
		"both greatest":    func(l *api.ThawRules) { l.Frost, l.Thaw = 600, 600 },
		"greatest thaw":    func(l *api.ThawRules) { l.Thaw = 600 },
		"no gain":          func(l *api.ThawRules) { l.Gain = 0 },
		"gain above full":  func(l *api.ThawRules) { l.Gain = 60 },
		"never charged":    func(l *api.ThawRules) { l.Full = 0 },
		"full":             func(l *api.ThawRules) { l.Full = 60 },
		"no ice":           func(l *api.ThawRules) { l.Ice = 0 },
		"ice above most":   func(l *api.ThawRules) { l.Ice = 30 },
		"never ice":        func(l *api.ThawRules) { l.Most = 0 },
		"most":             func(l *api.ThawRules) { l.Most = 30 },
		"nothing melts":    func(l *api.ThawRules) { l.Melt = 0 },
		"all melts":        func(l *api.ThawRules) { l.Melt = 30 },
		"rate from 0":      func(l *api.ThawRules) { l.Rate = one(0) },
		"greatest rate":    func(l *api.ThawRules) { l.Rate = one(100000) },
		"whole rate":       func(l *api.ThawRules) { l.Rate = r(0, 100000) },
		"no pull":          func(l *api.ThawRules) { l.Pull = 0 },
		"greatest pull":    func(l *api.ThawRules) { l.Pull = 100 },
		"frost above zero": func(l *api.ThawRules) { l.Frost, l.Thaw = 19, 20 },
	} {
		good[name] = rulesWith(change)
	}
	return good
}

func badRules() map[string]api.ThawRules {
	bad := map[string]api.ThawRules{}
	for name, change := range map[string]func(l *api.ThawRules){
		"frost below":      func(l *api.ThawRules) { l.Frost = -601 },
		"frost above thaw": func(l *api.ThawRules) { l.Frost = 21 },
		"frost above":      func(l *api.ThawRules) { l.Frost, l.Thaw = 601, 601 },
		"thaw below":       func(l *api.ThawRules) { l.Frost, l.Thaw = -601, -601 },
		"thaw above":       func(l *api.ThawRules) { l.Thaw = 601 },
		"gain below":       func(l *api.ThawRules) { l.Gain = -1 },
		"gain above":       func(l *api.ThawRules) { l.Gain = 61 },
		"full below":       func(l *api.ThawRules) { l.Full = -1 },
		"full above":       func(l *api.ThawRules) { l.Full = 61 },
		"ice below":        func(l *api.ThawRules) { l.Ice = -1 },
		"ice above":        func(l *api.ThawRules) { l.Ice = 31 },
		"most below":       func(l *api.ThawRules) { l.Most = -1 },
		"most above":       func(l *api.ThawRules) { l.Most = 31 },
		"melt below":       func(l *api.ThawRules) { l.Melt = -1 },
		"melt above":       func(l *api.ThawRules) { l.Melt = 31 },
		"rate below":       func(l *api.ThawRules) { l.Rate.Low = -1 },
		"rate above":       func(l *api.ThawRules) { l.Rate.High = 100001 },
		"rate all above":   func(l *api.ThawRules) { l.Rate = one(100001) },
		"rate turned":      func(l *api.ThawRules) { l.Rate.Low = 801 },
		"rate all below":   func(l *api.ThawRules) { l.Rate = one(-1) },
		"pull below":       func(l *api.ThawRules) { l.Pull = -1 },
		"pull above":       func(l *api.ThawRules) { l.Pull = 101 },
	} {
		bad[name] = rulesWith(change)
	}
	return bad
}

// checkError asks all functions with rules, a state and weather for their error, with whatever else is wrong that has an error of its own later.
func checkError(t *testing.T, what string, l api.ThawRules, s api.ThawState, w []api.Range, want api.Errno) {
	t.Helper()
	same(t, "Check: "+what, 0, thaw.Check(l, s, w), 0, want)
	if want == api.OK {
		return
	}
	ran, e := thaw.Runs(l, s, w)
	same(t, "Runs: "+what, ran, e, api.Range{}, want)
	ends, e := thaw.Ends(l, s, w)
	sameList(t, "Ends: "+what, ends, e, nil, want)
	for _, most := range []bool{false, true} {
		kinds, e := thaw.Extreme(l, s, w, most)
		sameList(t, "Extreme: "+what, kinds, e, nil, want)
	}
	daily, e := thaw.Daily(l, s, w)
	sameList(t, "Daily: "+what, daily, e, nil, want)
	sameFirst(t, what, l, s, w, [2]int{}, want)
	sameFit(t, what, l, s, w, times(len(w)+1, api.Seen(3)), 0, api.Range{}, want)
	sameFit(t, what, l, s, w, times(len(w), api.Seen(3)), 0, api.Range{}, want)
}

// checkRulesError asks those that need no weather, with all else that they need wrong.
func checkRulesError(t *testing.T, what string, l api.ThawRules) {
	t.Helper()
	kinds, e := thaw.Kinds(l, mild)
	sameList(t, "Kinds: "+what, kinds, e, nil, api.ErrArg)
	gives, e := thaw.Gives(l, make([]api.TapGroup, 61))
	same(t, "Gives: "+what, gives, e, api.Range{}, api.ErrArg)
	crop, e := thaw.Crop(l, make([]api.TapGroup, 61), one(-1))
	same(t, "Crop: "+what, crop, e, api.Range{}, api.ErrArg)
	crop, e = thaw.Crop(l, nil, one(-1))
	same(t, "Crop: "+what, crop, e, api.Range{}, api.ErrArg)
}

// checkCourseError asks Course for an error.
func checkCourseError(t *testing.T, what string, l api.ThawRules, s api.ThawState, kinds []api.HourKind, want api.Errno) {
	t.Helper()
	runs, end, e := thaw.Course(l, s, kinds)
	sameList(t, "Course: "+what, runs, e, nil, want)
	same(t, "the end of Course: "+what, end, e, state(0, 0), want)
}

func TestP4_1Rules(t *testing.T) {
	for name, l := range goodRules() {
		checkError(t, name, l, state(0, 0), set(unknown), api.OK)
		if _, e := thaw.Kinds(l, unknown); e != api.OK {
			t.Error("Kinds:", name, e)
		}
		if _, e := thaw.Crop(l, groups(group(1, 0, 1)), r(0, 1)); e != api.OK {
			t.Error("Crop:", name, e)
		}
		if _, _, e := thaw.Course(l, state(l.Full, l.Most), course(1, 2, 3)); e != api.OK {
			t.Error("Course:", name, e)
		}
	}
	for name, l := range badRules() {
		checkError(t, name, l, state(0, 0), set(unknown), api.ErrArg)
		checkError(t, name+", and all else", l, state(-1, -1), times(1001, r(1, 0)), api.ErrArg)
		checkRulesError(t, name, l)
		checkCourseError(t, name, l, state(0, 0), course(2), api.ErrArg)
		checkCourseError(t, name+", and all else", l, state(-1, -1), times(1001, api.HourKind(0)), api.ErrArg)
	}
}

func TestP4_1State(t *testing.T) {
	for _, l := range []api.ThawRules{usual(), {}, greatest(), rulesWith(func(l *api.ThawRules) { l.Full = 0 }), rulesWith(func(l *api.ThawRules) { l.Most = 0 })} {
		for _, s := range states(state(0, 0), state(l.Full, 0), state(0, l.Most), state(l.Full, l.Most)) {
			checkError(t, fmt.Sprint(s, " of ", l), l, s, set(unknown), api.OK)
		}
		for _, s := range states(state(-1, 0), state(l.Full+1, 0), state(0, -1), state(0, l.Most+1), state(low, 0), state(0, high)) {
			what := fmt.Sprint(s, " of ", l)
			checkError(t, what, l, s, set(unknown), api.ErrArg)
			checkError(t, what+", and much weather", l, s, times(1001, mild), api.ErrArg)
			checkCourseError(t, what, l, s, course(2), api.ErrArg)
			checkCourseError(t, what+", and a long course", l, s, times(1001, st), api.ErrArg)
		}
	}
}

func TestP4_1Weather(t *testing.T) {
	for name, w := range map[string][]api.Range{
		"nil":          nil,
		"empty":        {},
		"1000 hours":   times(1000, mild),
		"all weather":  set(r(-600, 600)),
		"the coldest":  set(one(-600)),
		"the warmest":  set(one(600)),
		"of all kinds": set(cold, mild, warm, coldish, warmish, unknown),
	} {
		checkError(t, name, usual(), state(5, 3), w, api.OK)
	}
	for name, hour := range map[string]api.Range{
		"turned":    r(5, 4),
		"too cold":  r(-601, 0),
		"too warm":  r(0, 601),
		"all cold":  one(-601),
		"all warm":  one(601),
		"far apart": r(low, high),
		"no range":  r(high, low),
	} {
		for at := range 3 {
			w := times(3, mild)
			w[at] = hour
			checkError(t, fmt.Sprint(name, " at ", at), usual(), state(0, 0), w, api.ErrArg)
		}
		checkError(t, name+" in 1000 hours", usual(), state(0, 0), append(times(999, mild), hour), api.ErrArg)
		checkError(t, name+" in 1001 hours", usual(), state(0, 0), append(times(1000, mild), hour), api.ErrLong)
		checkError(t, name+" first in 1001 hours", usual(), state(0, 0), append(set(hour), times(1000, mild)...), api.ErrLong)
	}
	checkError(t, "1001 hours", usual(), state(0, 0), times(1001, mild), api.ErrLong)
}

func TestP4_2Kinds(t *testing.T) {
	for _, c := range []struct {
		frost, thaw int
		t           api.Range
		want        []api.HourKind
	}{
		{-10, 20, r(-20, 30), course(1, 2, 3)},
		// Frost and Thaw themselves are still, one below or above is not.
		{-10, 20, one(20), course(2)}, {-10, 20, one(-10), course(2)}, {-10, 20, r(-10, 20), course(2)}, {-10, 20, r(20, 21), course(2, 3)},
		{-10, 20, one(21), course(3)}, {-10, 20, one(-11), course(1)}, {-10, 20, r(-11, -10), course(1, 2)}, {-10, 20, one(0), course(2)},
		{-10, 20, r(-11, 21), course(1, 2, 3)}, {-10, 20, r(-10, 21), course(2, 3)}, {-10, 20, r(-11, 20), course(1, 2)},
		{-10, 20, r(-600, -11), course(1)}, {-10, 20, r(21, 600), course(3)}, {-10, 20, r(-600, 600), course(1, 2, 3)},
		// Where Frost is Thaw there is one temperature that is still.
		{5, 5, one(4), course(1)}, {5, 5, one(5), course(2)}, {5, 5, one(6), course(3)}, {5, 5, r(4, 6), course(1, 2, 3)}, {5, 5, r(4, 5), course(1, 2)}, {5, 5, r(5, 6), course(2, 3)},
		// At the limits some kinds never come.
		{-600, 600, r(-600, 600), course(2)}, {-600, -600, r(-600, 600), course(2, 3)}, {600, 600, r(-600, 600), course(1, 2)}, {-600, 600, one(-600), course(2)}, {-600, -600, one(-599), course(3)}, {600, 600, one(599), course(1)},
	} {
		l := rulesWith(func(l *api.ThawRules) { l.Frost, l.Thaw = c.frost, c.thaw })
		kinds, e := thaw.Kinds(l, c.t)
		sameList(t, fmt.Sprint("Kinds of ", c.t, " by ", c.frost, c.thaw), kinds, e, c.want, api.OK)
	}
	for _, bad := range set(r(1, 0), r(-601, 0), r(0, 601), one(-601), one(601), r(low, high), r(high, low), r(low, 0), r(0, high)) {
		kinds, e := thaw.Kinds(usual(), bad)
		sameList(t, fmt.Sprint("Kinds of ", bad), kinds, e, nil, api.ErrArg)
	}
}

func TestP4_2AllKinds(t *testing.T) {
	for frost := -3; frost <= 3; frost++ {
		for warm := frost; warm <= 3; warm++ {
			l := rulesWith(func(l *api.ThawRules) { l.Frost, l.Thaw = frost, warm })
			for a := -5; a <= 5; a++ {
				for b := a; b <= 5; b++ {
					kinds, e := thaw.Kinds(l, r(a, b))
					sameList(t, fmt.Sprint("Kinds of ", a, b, " by ", frost, warm), kinds, e, kindsOf(l, r(a, b)), api.OK)
				}
			}
		}
	}
}

func TestP4_2Course(t *testing.T) {
	no, yes := false, true
	for i, c := range []struct {
		change func(l *api.ThawRules)
		s      api.ThawState
		l      []api.HourKind
		runs   []bool
		end    api.ThawState
	}{
		{nil, state(0, 0), nil, nil, state(0, 0)},
		{nil, state(4, 2), nil, nil, state(4, 2)},
		{nil, state(0, 0), course(fr, fr, fr), []bool{no, no, no}, state(5, 3)},
		{nil, state(0, 0), course(fr, fr, fr, th, th, th, th), []bool{no, no, no, no, no, yes, yes}, state(3, 0)},
		// A still hour changes nothing.
		{nil, state(4, 2), course(st, st), []bool{no, no}, state(4, 2)},
		// The charge does not go above Full, nor the ice above Most.
		{nil, state(3, 0), course(fr), []bool{no}, state(5, 1)},
		{nil, state(4, 3), course(fr), []bool{no}, state(5, 3)},
		{nil, state(5, 2), course(fr), []bool{no}, state(5, 3)},
		{func(l *api.ThawRules) { l.Ice = 2 }, state(0, 2), course(fr), []bool{no}, state(2, 3)},
		{func(l *api.ThawRules) { l.Gain, l.Ice = 60, 30 }, state(0, 0), course(fr), []bool{no}, state(5, 3)},
		{func(l *api.ThawRules) { l.Full, l.Most = 0, 0 }, state(0, 0), course(fr, th), []bool{no, no}, state(0, 0)},
		{func(l *api.ThawRules) { l.Gain, l.Ice = 0, 0 }, state(1, 1), course(fr), []bool{no}, state(1, 1)},
		// The ice does not go below 0, and in the hour in which the last one melts nothing runs.
		{nil, state(5, 1), course(th, th), []bool{no, yes}, state(4, 0)},
		{nil, state(5, 2), course(th, th), []bool{no, yes}, state(4, 0)},
		{nil, state(5, 3), course(th, th), []bool{no, no}, state(5, 0)},
		{func(l *api.ThawRules) { l.Melt = 0 }, state(5, 1), course(th, th, th), []bool{no, no, no}, state(5, 1)},
		{func(l *api.ThawRules) { l.Melt = 30 }, state(5, 3), course(th), []bool{no}, state(5, 0)},
		// Sap runs until the charge is used up, and again when it is charged.
		{nil, state(2, 0), course(th, th, th), []bool{yes, yes, no}, state(0, 0)},
		{nil, state(2, 0), course(th, st, th, st, th), []bool{yes, no, yes, no, no}, state(0, 0)},
		{nil, state(0, 0), course(th, fr, th, th, th, th), []bool{no, no, no, yes, yes, no}, state(0, 0)},
		{nil, state(0, 2), course(th, th), []bool{no, no}, state(0, 0)},
		{func(l *api.ThawRules) { l.Ice = 0 }, state(0, 0), course(fr, th, th, th), []bool{no, yes, yes, no}, state(0, 0)},
		{func(l *api.ThawRules) { *l = greatest() }, state(60, 30), course(th, th, fr, th, th), []bool{no, yes, no, no, yes}, state(59, 0)},
	} {
		l := usual()
		if c.change != nil {
			c.change(&l)
		}
		runs, end, e := thaw.Course(l, c.s, c.l)
		sameList(t, fmt.Sprint("Course ", i), runs, e, c.runs, api.OK)
		same(t, fmt.Sprint("the end of Course ", i), end, e, c.end, api.OK)
	}
}

func TestP4_2CourseErrors(t *testing.T) {
	for _, kind := range []api.HourKind{0, 4, -1, low, high} {
		for at := range 3 {
			kinds := times(3, st)
			kinds[at] = kind
			checkCourseError(t, fmt.Sprint(kind, " at ", at), usual(), state(1, 1), kinds, api.ErrArg)
		}
		checkCourseError(t, fmt.Sprint(kind, " in 1000 hours"), usual(), state(1, 1), append(times(999, st), kind), api.ErrArg)
		checkCourseError(t, fmt.Sprint(kind, " in 1001 hours"), usual(), state(1, 1), append(times(1000, st), kind), api.ErrLong)
		checkCourseError(t, fmt.Sprint(kind, " first in 1001 hours"), usual(), state(1, 1), append(course(kind), times(1000, st)...), api.ErrLong)
	}
	checkCourseError(t, "1001 hours", usual(), state(1, 1), times(1001, st), api.ErrLong)
	runs, end, e := thaw.Course(usual(), state(5, 0), times(1000, th))
	sameList(t, "a course of 1000 hours", runs, e, append(times(5, true), times(995, false)...), api.OK)
	same(t, "the end of 1000 hours", end, e, state(0, 0), api.OK)
}

func TestP4_2AllCourses(t *testing.T) {
	d := dice()
	ran := 0
	for range 4000 {
		l := anyRules(d)
		s := anyState(d, l)
		var kinds []api.HourKind
		for range pick(d, 0, 30) {
			kinds = append(kinds, api.HourKind(pick(d, 1, 3)))
		}
		var want []bool
		at := s
		for _, k := range kinds {
			next, runs := hourOf(l, at, k)
			want, at = append(want, runs), next
		}
		runs, end, e := thaw.Course(l, s, kinds)
		what := fmt.Sprint(l, s, kinds)
		sameList(t, "Course "+what, runs, e, want, api.OK)
		same(t, "the end of Course "+what, end, e, at, api.OK)
		if slices.Contains(runs, true) {
			ran++
		}
	}
	if ran < 1000 {
		t.Error("sap runs in too few courses:", ran)
	}
}
