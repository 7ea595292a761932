// Package span computes with what is not known exactly: ranges, parts, sap, tables and sets of integers.
package span

import "spile/api"

// Sum returns the range of all sums.
func Sum(l []api.Range) (api.Range, api.Errno) {
	if e := checkList(l); e != api.OK {
		return api.Range{}, e
	}
	return within(together(api.Range{}, l, func(a, b api.Range) api.Range {
		return api.Range{Low: a.Low + b.Low, High: a.High + b.High}
	}))
}

// Less returns the range of all differences.
func Less(a, b api.Range) (api.Range, api.Errno) {
	if !validRange(a) || !validRange(b) {
		return api.Range{}, api.ErrArg
	}
	return within(api.Range{Low: a.Low - b.High, High: a.High - b.Low})
}

// Scale returns the range of a range times a fraction.
func Scale(a api.Range, num, den int) (api.Range, api.Errno) {
	if !validRange(a) {
		return api.Range{}, api.ErrArg
	}
	if num < -api.MaxPart || num > api.MaxPart || den < 1 || den > api.MaxPart {
		return api.Range{}, api.ErrRange
	}
	return within(hull(quotientOf(a.Low, num, den).around(), quotientOf(a.High, num, den).around()))
}

// Times returns the range of all products.
func Times(a, b api.Range) (api.Range, api.Errno) {
	if !validRange(a) || !validRange(b) {
		return api.Range{}, api.ErrArg
	}
	return within(corners(a, b, func(x, y int) api.Range { return quotientOf(x, y).around() }))
}

// Over returns the range of all quotients.
func Over(a, b api.Range) (api.Range, api.Errno) {
	if !validRange(a) || !validRange(b) {
		return api.Range{}, api.ErrArg
	}
	if b.Low <= 0 && b.High >= 0 {
		return api.Range{}, api.ErrRange
	}
	return within(corners(a, b, func(x, y int) api.Range { return quotientOf(x, 1, y).around() }))
}

// Meet returns what ranges have in common.
func Meet(l []api.Range) (api.Range, api.Errno) {
	if e := checkSome(l); e != api.OK {
		return api.Range{}, e
	}
	common := together(l[0], l[1:], func(a, b api.Range) api.Range {
		return api.Range{Low: max(a.Low, b.Low), High: min(a.High, b.High)}
	})
	if common.Low > common.High {
		return api.Range{}, api.ErrNone
	}
	return common, api.OK
}

// Hull returns the least range with all ranges.
func Hull(l []api.Range) (api.Range, api.Errno) {
	if e := checkSome(l); e != api.OK {
		return api.Range{}, e
	}
	return hull(l[0], l[1:]...), api.OK
}

// AtMost reports whether a is surely, and possibly, at most b.
func AtMost(a, b api.Range) (surely, possibly bool, e api.Errno) {
	if !validRange(a) || !validRange(b) {
		return false, false, api.ErrArg
	}
	return a.High <= b.Low, a.Low <= b.High, api.OK
}

// validRange reports whether a range is valid.
func validRange(a api.Range) bool {
	return -api.MaxSpan <= a.Low && a.Low <= a.High && a.High <= api.MaxSpan
}

// checkList returns the error of a list of ranges.
func checkList(l []api.Range) api.Errno {
	if len(l) > api.MaxSum {
		return api.ErrLong
	}
	for _, a := range l {
		if !validRange(a) {
			return api.ErrArg
		}
	}
	return api.OK
}

// checkSome returns the error of a list that must not be empty.
func checkSome(l []api.Range) api.Errno {
	if e := checkList(l); e != api.OK {
		return e
	}
	if len(l) == 0 {
		return api.ErrForm
	}
	return api.OK
}

// within returns a result, or ErrOver if an end of it is too great.
func within(a api.Range) (api.Range, api.Errno) {
	if a.Low < -api.MaxSpan || a.High > api.MaxSpan {
		return api.Range{}, api.ErrOver
	}
	return a, api.OK
}

// together brings ranges together, from the first one on.
func together(first api.Range, others []api.Range, join func(a, b api.Range) api.Range) api.Range {
	for _, a := range others {
		first = join(first, a)
	}
	return first
}

// hull returns the least range in which all ranges lie.
func hull(first api.Range, others ...api.Range) api.Range {
	return together(first, others, func(a, b api.Range) api.Range {
		return api.Range{Low: min(a.Low, b.Low), High: max(a.High, b.High)}
	})
}

// corners returns the least range in which the results for all ends of two ranges lie: what goes only up, or only down, with each of its numbers is least and greatest there.
func corners(a, b api.Range, result func(x, y int) api.Range) api.Range {
	return hull(result(a.Low, b.Low), result(a.Low, b.High), result(a.High, b.Low), result(a.High, b.High))
}
