package trunk

import (
	"slices"

	"spile/api"
)

// fault is the number of a tap and the rule that it does not keep.
type fault struct {
	at, rule int
}

// none is the fault of taps that keep all rules.
var none = fault{at: -1}

// Keeps returns the first tap of a year that does not keep a rule, and the rule; -1 and 0 if there is none.
func Keeps(t api.Tree, r api.TapRules, year int, l []api.Spot) (at, rule int, e api.Errno) {
	if e := checkAll(t, r, year); e != api.OK {
		return 0, 0, e
	}
	if e := checkTaps(l); e != api.OK {
		return 0, 0, e
	}
	f := look(t, r, year).fault(l)
	return f.at, f.rule, api.OK
}

// Drill returns a tree with taps of a year.
func Drill(t api.Tree, year int, l []api.Spot) (api.Tree, api.Errno) {
	if e := checkTreeIn(t, year); e != api.OK {
		return api.Tree{}, e
	}
	if e := checkTaps(l); e != api.OK {
		return api.Tree{}, e
	}
	if len(t.Holes)+len(l) > api.MaxHoles {
		return api.Tree{}, api.ErrFull
	}
	t.Holes = slices.Clone(t.Holes)
	for _, spot := range l {
		t.Holes = append(t.Holes, api.Hole{Year: year, Spot: spot})
	}
	return t, api.OK
}

// Rota returns the spots of so many years, n in each, at the first height of a list at which there is room; with an error of a year, its number.
func Rota(t api.Tree, r api.TapRules, first, n int, heights []int, years int) (plan [][]api.Spot, at int, e api.Errno) {
	if e := checkAll(t, r, first); e != api.OK {
		return nil, 0, e
	}
	if len(heights) > api.MaxTaps || years > api.MaxRota {
		return nil, 0, api.ErrLong
	}
	if !within(upTo(api.MaxHigh), heights...) || !within(upTo(api.MaxTaps), n) || years < 0 || first+years-1 > api.MaxYear {
		return nil, 0, api.ErrRange
	}
	for i := range years {
		spots, ok := look(t, r, first+i).spotsOf(heights, n)
		if !ok {
			return nil, i, api.ErrNone
		}
		if t, e = Drill(t, first+i, spots); e != api.OK {
			return nil, i, e
		}
		plan = append(plan, spots)
	}
	return plan, 0, api.OK
}

// Verify returns the first year of a plan in which a tap does not keep a rule, the tap, and the rule; -1, 0 and 0 if there is none.
func Verify(t api.Tree, r api.TapRules, first int, plan [][]api.Spot) (year, at, rule int, e api.Errno) {
	if e := checkAll(t, r, first); e != api.OK {
		return 0, 0, 0, e
	}
	if e := checkPlan(first, plan); e != api.OK {
		return 0, 0, 0, e
	}
	for i, l := range plan {
		if f := look(t, r, first+i).fault(l); f != none {
			return i, f.at, f.rule, api.OK
		}
		if t, e = Drill(t, first+i, l); e != api.OK {
			return 0, 0, 0, e
		}
	}
	return -1, 0, 0, api.OK
}

// checkTaps returns the error of the taps of a year.
func checkTaps(l []api.Spot) api.Errno {
	if len(l) > api.MaxTaps {
		return api.ErrLong
	}
	if !validSpots(l...) {
		return api.ErrRange
	}
	return api.OK
}

// checkPlan returns the error of a plan from a year on.
func checkPlan(first int, plan [][]api.Spot) api.Errno {
	has := func(wrong api.Errno) bool {
		return slices.ContainsFunc(plan, func(l []api.Spot) bool { return checkTaps(l) == wrong })
	}
	if len(plan) > api.MaxRota || has(api.ErrLong) {
		return api.ErrLong
	}
	if first+len(plan)-1 > api.MaxYear || has(api.ErrRange) {
		return api.ErrRange
	}
	return api.OK
}

// fault returns the first fault of the taps of a year.
func (s *search) fault(l []api.Spot) fault {
	for at, tap := range l {
		broken := func(kept func(api.Spot) bool) bool { return !kept(tap) }
		if i := slices.IndexFunc(s.conditions(l[:at]), broken); i >= 0 {
			return fault{at: at, rule: i + 1}
		}
	}
	return none
}

// conditions returns the rules 1 to 4 for the tap behind others.
func (s *search) conditions(before []api.Spot) []func(tap api.Spot) bool {
	return []func(tap api.Spot) bool{
		func(tap api.Spot) bool { return within(s.Between, tap.Height) },
		func(tap api.Spot) bool {
			return !slices.ContainsFunc(s.Holes, func(h api.Hole) bool { return s.forbids(h, tap, s.harsh) })
		},
		func(tap api.Spot) bool {
			return !slices.ContainsFunc(before, func(b api.Spot) bool { return turn(b.Angle, tap.Angle) < s.apart() })
		},
		func(tap api.Spot) bool { return len(before) < s.taps(s.harsh) },
	}
}

// spotsOf returns the spots of so many taps at the first one of the heights at which they keep the rules, if there is one.
func (s *search) spotsOf(heights []int, n int) ([]api.Spot, bool) {
	for _, height := range heights {
		if spots, ok := s.spots(height, n); ok && s.fault(spots) == none {
			return spots, true
		}
	}
	return nil, false
}
