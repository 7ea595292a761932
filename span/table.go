package span

import "spile/api"

// CheckTable returns the error of a table.
func CheckTable(t []api.Row) api.Errno {
	if len(t) < 2 || len(t) > api.MaxRows {
		return api.ErrArg
	}
	for i, row := range t {
		if !validRow(row) || i > 0 && row.X <= t[i-1].X {
			return api.ErrArg
		}
	}
	return api.OK
}

// Value returns the value at a place.
func Value(t []api.Row, x int) (api.Range, api.Errno) {
	if e := CheckTable(t); e != api.OK {
		return api.Range{}, e
	}
	if !covers(t, x) {
		return api.Range{}, api.ErrRange
	}
	return valueAt(t, x), api.OK
}

// Values returns the range of all values at the places of a range.
func Values(t []api.Row, a api.Range) (api.Range, api.Errno) {
	if e := CheckTable(t); e != api.OK {
		return api.Range{}, e
	}
	if !validRange(a) {
		return api.Range{}, api.ErrArg
	}
	if !covers(t, a.Low) || !covers(t, a.High) {
		return api.Range{}, api.ErrRange
	}
	// Between two rows the values go only up, or only down: the least and the greatest are at ends and rows.
	all := hull(valueAt(t, a.Low), valueAt(t, a.High))
	for _, row := range t {
		if a.Low < row.X && row.X < a.High {
			all = hull(all, api.Range{Low: row.Y, High: row.Y})
		}
	}
	return all, api.OK
}

// Where returns the places at which the value lies in a range.
func Where(t []api.Row, y api.Range) ([]api.Range, api.Errno) {
	if e := CheckTable(t); e != api.OK {
		return nil, e
	}
	if !validRange(y) {
		return nil, api.ErrArg
	}
	var set []api.Range
	for i := range len(t) - 1 {
		if a, ok := placesBetween(t[i], t[i+1], y); ok {
			set = extend(set, a)
		}
	}
	return set, api.OK
}

// validRow reports whether the numbers of a row are valid.
func validRow(row api.Row) bool {
	return -api.MaxRow <= row.X && row.X <= api.MaxRow && -api.MaxRow <= row.Y && row.Y <= api.MaxRow
}

// covers reports whether a valid table has a value at x.
func covers(t []api.Row, x int) bool {
	return t[0].X <= x && x <= t[len(t)-1].X
}

// valueAt returns the value at x, which the table covers, rounded down and rounded up.
func valueAt(t []api.Row, x int) api.Range {
	i := 0
	for x > t[i+1].X {
		i++
	}
	a, b := t[i], t[i+1]
	rise := quotientOf(b.Y-a.Y, x-a.X, b.X-a.X).around()
	return api.Range{Low: a.Y + rise.Low, High: a.Y + rise.High}
}

// placesBetween returns the integers from one row to the next one at which the value lies in y, if there are any.
func placesBetween(a, b api.Row, y api.Range) (api.Range, bool) {
	width, rise := b.X-a.X, b.Y-a.Y
	if rise == 0 {
		return api.Range{Low: a.X, High: b.X}, y.Low <= a.Y && a.Y <= y.High
	}
	enters, leaves := y.Low, y.High
	if rise < 0 {
		enters, leaves = y.High, y.Low
	}
	first := quotientOf(enters-a.Y, width, rise).around().High
	last := quotientOf(leaves-a.Y, width, rise).around().Low
	places := api.Range{Low: a.X + max(0, first), High: a.X + min(width, last)}
	return places, places.Low <= places.High
}
