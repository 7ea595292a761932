package trunk

import (
	"iter"

	"spile/api"
)

// Blocks returns the holes that forbid a spot in some truth, and those that do in each one.
func Blocks(t api.Tree, r api.TapRules, year int, s api.Spot) (possibly, surely []int, e api.Errno) {
	if e := checkAll(t, r, year); e != api.OK {
		return nil, nil, e
	}
	if !validSpots(s) {
		return nil, nil, api.ErrRange
	}
	in := look(t, r, year)
	for i, h := range in.Holes {
		if in.forbids(h, s, in.harsh) {
			possibly = append(possibly, i)
		}
		if in.forbids(h, s, in.mild) {
			surely = append(surely, i)
		}
	}
	return possibly, surely, api.OK
}

// Free returns the angles at a height that no hole can forbid.
func Free(t api.Tree, r api.TapRules, year, height int) ([]api.Range, api.Errno) {
	if e := checkHeight(t, r, year, height); e != api.OK {
		return nil, e
	}
	var set []api.Range
	for angle := range look(t, r, year).angles(height).free {
		if n := len(set); n > 0 && set[n-1].High == angle-1 {
			set[n-1].High = angle
		} else {
			set = append(set, api.Range{Low: angle, High: angle})
		}
	}
	return set, api.OK
}

// Most returns how many taps there is room for at a height.
func Most(t api.Tree, r api.TapRules, year, height int) (int, api.Errno) {
	if e := checkHeight(t, r, year, height); e != api.OK {
		return 0, e
	}
	most := 0
	for row := range look(t, r, year).rows(height) {
		most = max(most, len(row))
	}
	return most, api.OK
}

// Spots returns the first spots for so many taps at a height.
func Spots(t api.Tree, r api.TapRules, year, height, n int) ([]api.Spot, api.Errno) {
	if e := checkHeight(t, r, year, height); e != api.OK {
		return nil, e
	}
	if !within(upTo(api.MaxTaps), n) {
		return nil, api.ErrRange
	}
	spots, ok := look(t, r, year).spots(height, n)
	if !ok {
		return nil, api.ErrNone
	}
	return spots, api.OK
}

// checkHeight returns the error of a tree and its rules in a year, and of a height.
func checkHeight(t api.Tree, r api.TapRules, year, height int) api.Errno {
	if e := checkAll(t, r, year); e != api.OK {
		return e
	}
	if !within(upTo(api.MaxHigh), height) {
		return api.ErrRange
	}
	return api.OK
}

// rows yields rows of angles for taps at a height; there is none if no tap may be there.
func (s *search) rows(height int) iter.Seq[[]int] {
	if !within(s.Between, height) {
		return func(yield func([]int) bool) {}
	}
	return s.angles(height).rows(s.apart())
}

// spots returns the first spots for so many taps at a height, if there is room.
func (s *search) spots(height, n int) ([]api.Spot, bool) {
	for row := range s.rows(height) {
		if len(row) >= n {
			return spotsAt(height, row[:n]...), true
		}
	}
	return nil, n == 0
}

// spotsAt returns spots with a height.
func spotsAt(height int, angles ...int) []api.Spot {
	var spots []api.Spot
	for _, angle := range angles {
		spots = append(spots, api.Spot{Angle: angle, Height: height})
	}
	return spots
}
