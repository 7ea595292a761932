package span

import (
	"slices"

	"spile/api"
)

// CheckSet returns the error of a set.
func CheckSet(s []api.Range) api.Errno {
	if len(s) > api.MaxRuns {
		return api.ErrLong
	}
	for i, a := range s {
		if !validRange(a) || i > 0 && a.Low <= s[i-1].High+1 {
			return api.ErrArg
		}
	}
	return api.OK
}

// Union returns the numbers of one or the other.
func Union(a, b []api.Range) ([]api.Range, api.Errno) {
	return choose(a, b, func(inA, inB bool) bool { return inA || inB })
}

// Common returns the numbers of both.
func Common(a, b []api.Range) ([]api.Range, api.Errno) {
	return choose(a, b, func(inA, inB bool) bool { return inA && inB })
}

// Without returns the numbers of a that are not in b.
func Without(a, b []api.Range) ([]api.Range, api.Errno) {
	return choose(a, b, func(inA, inB bool) bool { return inA && !inB })
}

// Count returns how many numbers there are.
func Count(s []api.Range) (int, api.Errno) {
	if e := CheckSet(s); e != api.OK {
		return 0, e
	}
	n := 0
	for _, a := range s {
		n += a.High - a.Low + 1
	}
	return n, api.OK
}

// Widen returns all numbers near those of a set.
func Widen(s []api.Range, by int) ([]api.Range, api.Errno) {
	if e := checkStep(s, by); e != api.OK {
		return nil, e
	}
	var wide []api.Range
	for _, a := range s {
		wide = extend(wide, api.Range{Low: max(a.Low-by, -api.MaxSpan), High: min(a.High+by, api.MaxSpan)})
	}
	return wide, api.OK
}

// Narrow returns the numbers all of whose neighbours are in a set.
func Narrow(s []api.Range, by int) ([]api.Range, api.Errno) {
	if e := checkStep(s, by); e != api.OK {
		return nil, e
	}
	var narrow []api.Range
	for _, a := range s {
		if a.Low+by <= a.High-by {
			narrow = append(narrow, api.Range{Low: a.Low + by, High: a.High - by})
		}
	}
	return narrow, api.OK
}

// Near returns the nearest number of a set.
func Near(s []api.Range, x int) (int, api.Errno) {
	if e := CheckSet(s); e != api.OK {
		return 0, e
	}
	if !validNumber(x) {
		return 0, api.ErrRange
	}
	if len(s) == 0 {
		return 0, api.ErrNone
	}
	near := nearest(s[0], x)
	for _, a := range s[1:] {
		if y := nearest(a, x); size(y-x) < size(near-x) {
			near = y
		}
	}
	return near, api.OK
}

// nearest returns the number of a range that differs least from x.
func nearest(a api.Range, x int) int {
	return min(max(x, a.Low), a.High)
}

// checkStep returns the error of a set and of how far it is widened or narrowed.
func checkStep(s []api.Range, by int) api.Errno {
	if e := CheckSet(s); e != api.OK {
		return e
	}
	if by < 0 || by > api.MaxSpan {
		return api.ErrRange
	}
	return api.OK
}

// extend adds a range to a set; no range of the set begins, or ends, after the new one.
func extend(s []api.Range, a api.Range) []api.Range {
	if n := len(s); n > 0 && a.Low <= s[n-1].High+1 {
		s[n-1].High = a.High
		return s
	}
	return append(s, a)
}

// choose returns the set of the numbers that are kept, by whether they are in a and in b.
func choose(a, b []api.Range, keep func(inA, inB bool) bool) ([]api.Range, api.Errno) {
	if e := CheckSet(a); e != api.OK {
		return nil, e
	}
	if e := CheckSet(b); e != api.OK {
		return nil, e
	}
	var set []api.Range
	steps := changes(a, b)
	for i := range len(steps) - 1 {
		// From a change to the next one all numbers are in the same sets.
		run := api.Range{Low: steps[i], High: steps[i+1] - 1}
		if keep(has(a, run.Low), has(b, run.Low)) {
			set = extend(set, run)
		}
	}
	if len(set) > api.MaxRuns {
		return nil, api.ErrFull
	}
	return set, api.OK
}

// changes returns where ranges of sets begin, and where they have ended, in ascending order.
func changes(sets ...[]api.Range) []int {
	var steps []int
	for _, s := range sets {
		for _, a := range s {
			steps = append(steps, a.Low, a.High+1)
		}
	}
	slices.Sort(steps)
	return slices.Compact(steps)
}

// has reports whether a number is in a set.
func has(s []api.Range, x int) bool {
	_, in := slices.BinarySearchFunc(s, x, func(a api.Range, x int) int {
		switch {
		case a.High < x:
			return -1
		case a.Low > x:
			return 1
		}
		return 0
	})
	return in
}
