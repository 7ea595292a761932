package thaw

import (
	"slices"

	"spile/api"
)

// choices are, for each charge and each ice, the kind that an hour takes in this state.
type choices [api.MaxCharge + 1][api.MaxIce + 1]api.HourKind

// rest is, for each charge and each ice, the number of hours in which sap runs from there on.
type rest [api.MaxCharge + 1][api.MaxIce + 1]int

// Extreme returns the smallest course on which sap runs in the fewest hours, or in the most ones.
func Extreme(r api.ThawRules, s api.ThawState, w []api.Range, most bool) ([]api.HourKind, api.Errno) {
	if e := Check(r, s, w); e != api.OK {
		return nil, e
	}
	better := func(x, y int) bool { return x < y }
	if most {
		better = func(x, y int) bool { return x > y }
	}
	b := &bush{r}
	var course []api.HourKind
	best := b.choices(w, better)
	for hour := range w {
		k := best[hour][s.Charge][s.Ice]
		course = append(course, k)
		s = b.after(s, k)
	}
	return course, api.OK
}

// choices returns the choices for each hour. They are made from the last hour on, as what is best later depends on the state alone.
func (b *bush) choices(w []api.Range, better func(x, y int) bool) []choices {
	all := make([]choices, len(w))
	var later rest
	for hour, t := range slices.Backward(w) {
		all[hour], later = b.choose(b.kinds(t), &later, better)
	}
	return all
}

// choose returns the first one of the best kinds of an hour in each state, and what is left to run from this hour on.
func (b *bush) choose(kinds []api.HourKind, later *rest, better func(x, y int) bool) (best choices, now rest) {
	for s := range b.states {
		for _, k := range kinds {
			next := b.after(s, k)
			hours := later[next.Charge][next.Ice]
			if ran(s, next) {
				hours++
			}
			if k == kinds[0] || better(hours, now[s.Charge][s.Ice]) {
				best[s.Charge][s.Ice], now[s.Charge][s.Ice] = k, hours
			}
		}
	}
	return best, now
}
