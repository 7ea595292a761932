package season

import (
	"slices"

	"spile/api"
	"spile/span"
)

// Carbon returns the carbon that stands, is stored, and is lost.
func Carbon(s api.Stand, cut []int, years int, grow, store api.Part) (stands, stored, lost int, e api.Errno) {
	if e := checkCarbon(s, cut, years, grow, store); e != api.OK {
		return 0, 0, 0, e
	}
	for tree, stem := range s.Stems {
		if !slices.Contains(cut, tree) {
			stands += grown(stem.Carbon, years, grow)
			continue
		}
		kept := partOf(stem.Carbon, store)
		stored += kept
		lost += stem.Carbon - kept
	}
	if stands > api.MaxSpan {
		return 0, 0, 0, api.ErrOver
	}
	return stands, stored, lost, api.OK
}

// checkCarbon returns the error of what Carbon is asked, but for what would stand.
func checkCarbon(s api.Stand, cut []int, years int, parts ...api.Part) api.Errno {
	if !validStand(s) {
		return api.ErrArg
	}
	if !in(0, api.MaxYears, years) {
		return api.ErrRange
	}
	for i, tree := range cut {
		if !in(0, len(s.Stems)-1, tree) {
			return api.ErrNone
		}
		if slices.Contains(cut[:i], tree) {
			return api.ErrTwice
		}
	}
	if slices.ContainsFunc(parts, func(p api.Part) bool { return !validPart(p) || !in(0, p.Den, p.Num) }) {
		return api.ErrArg
	}
	return api.OK
}

// grown returns the carbon of a tree after some years, or so much that it is too much already.
func grown(carbon, years int, grow api.Part) int {
	for range years {
		if carbon > api.MaxSpan {
			break
		}
		carbon += partOf(carbon, grow)
	}
	return carbon
}

// partOf returns a part of carbon, rounded down.
func partOf(carbon int, p api.Part) int {
	// The part is at most 1, and the carbon at most MaxSpan: so there is no error.
	r, _ := span.Of(carbon, p)
	return r.Low
}
