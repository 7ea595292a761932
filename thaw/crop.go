package thaw

import (
	"slices"

	"spile/api"
	"spile/span"
)

// whole is what a tap gives without a vacuum, in ten-thousandths.
const whole = 10000

// Gives returns how many milliliters groups of taps give in an hour in which sap runs.
func Gives(r api.ThawRules, l []api.TapGroup) (api.Range, api.Errno) {
	b := &bush{r}
	if !b.valid() {
		return api.Range{}, api.ErrArg
	}
	if len(l) > api.MaxThawGroups {
		return api.Range{}, api.ErrLong
	}
	if slices.ContainsFunc(l, func(g api.TapGroup) bool { return !validGroup(g) }) {
		return api.Range{}, api.ErrArg
	}
	var all []api.Range
	for _, g := range l {
		gives, e := b.gives(g)
		if e != api.OK {
			return api.Range{}, e
		}
		all = append(all, gives)
	}
	return span.Sum(all)
}

// Crop returns how many milliliters groups of taps give in so many hours.
func Crop(r api.ThawRules, l []api.TapGroup, hours api.Range) (api.Range, api.Errno) {
	gives, e := Gives(r, l)
	if e != api.OK {
		return api.Range{}, e
	}
	if !rangeIn(hours, 0, api.MaxHours) {
		return api.Range{}, api.ErrRange
	}
	return span.Times(gives, hours)
}

// Missing returns how much of what ran was not collected.
func Missing(ran api.Range, collected int) (api.Range, api.Errno) {
	if !rangeIn(ran, 0, api.MaxSpan) {
		return api.Range{}, api.ErrArg
	}
	if !in(0, api.MaxSpan, collected) {
		return api.Range{}, api.ErrRange
	}
	if collected > ran.High {
		return api.Range{}, api.ErrState
	}
	return api.Range{Low: max(0, ran.Low-collected), High: ran.High - collected}, api.OK
}

// validGroup reports whether a group of taps is valid.
func validGroup(g api.TapGroup) bool {
	return in(0, api.MaxGroupTaps, g.Taps) && rangeIn(g.Vacuum, 0, api.MaxVacuum)
}

// gives returns what a group gives. Its taps are counted before anything is rounded.
func (b *bush) gives(g api.TapGroup) (api.Range, api.Errno) {
	pulls := api.Range{Low: whole + b.Pull*g.Vacuum.Low, High: whole + b.Pull*g.Vacuum.High}
	each, e := span.Times(b.Rate, pulls)
	if e != api.OK {
		return api.Range{}, e
	}
	return span.Scale(each, g.Taps, whole)
}
