package trunk

import (
	"iter"

	"spile/api"
)

// angles has for each angle, and for Turn, the first free one from there on; it is Turn if there is none.
type angles [api.Turn + 1]int

// angles returns the angles of a height at which no hole forbids the spot in any truth.
func (s *search) angles(height int) *angles {
	var forbidden [api.Turn]bool
	for _, h := range s.Holes {
		if s.reaches(h, height, s.harsh) {
			for angle := range near(h.Spot.Angle, s.harsh.turnOf(s.harsh.side)) {
				forbidden[angle] = true
			}
		}
	}
	a := &angles{api.Turn: api.Turn}
	for angle := api.Turn - 1; angle >= 0; angle-- {
		a[angle] = angle
		if forbidden[angle] {
			a[angle] = a[angle+1]
		}
	}
	return a
}

// near yields the angles to which the turn from an angle is less than so much.
func near(angle, less int) iter.Seq[int] {
	return func(yield func(int) bool) {
		reach := min(less-1, api.Turn/2)
		for d := -reach; d <= reach && yield((angle+d+api.Turn)%api.Turn); d++ {
		}
	}
}

// free yields the free angles in ascending order.
func (a *angles) free(yield func(int) bool) {
	for angle := a[0]; angle < api.Turn && yield(angle); angle = a[angle+1] {
	}
}

// rows yields, from one first angle after another, the greatest row of free angles with at least such a turn between any two of them.
func (a *angles) rows(apart int) iter.Seq[[]int] {
	return func(yield func([]int) bool) {
		for first := range a.free {
			// A row that begins so far behind the first free angle is not needed: with that angle in place of its last one it would be as long.
			if first >= a[0]+apart || !yield(a.row(first, apart)) {
				return
			}
		}
	}
}

// row returns the row with a first angle: each angle is the least one that is apart from those before it. So any beginning of the row is the smallest list of as many angles.
func (a *angles) row(first, apart int) []int {
	row := []int{first}
	// Behind the last angle the turn to the first one is too little, the other way around the trunk.
	last := min(first+api.Turn-apart, api.Turn-1)
	for angle := a.from(first + apart); angle <= last; angle = a.from(angle + apart) {
		row = append(row, angle)
	}
	return row
}

// from returns the first free angle from a number on; it is Turn if there is none.
func (a *angles) from(angle int) int {
	return a[min(angle, api.Turn)]
}
