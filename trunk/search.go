package trunk

import "spile/api"

// search is what looks for spots: a tree and its rules, in a year.
//
// Each thing goes only one way with each number of a truth. So two truths tell of all: in the harsh one a hole forbids whatever it forbids in any truth, and the tree may have the fewest taps; in the mild one a hole forbids only what it forbids in each truth, and the tree may have the most taps.
type search struct {
	api.Tree
	api.TapRules
	now         int
	harsh, mild truth
}

// truth is a number of the girth, of Side, of Up and of Heal; those of holes are the same for all of them.
type truth struct {
	girth, side, up, heal int
}

// look begins a search; the tree, the rules and the year are valid.
func look(t api.Tree, r api.TapRules, year int) *search {
	girth := girthIn(t, year)
	return &search{
		Tree:     t,
		TapRules: r,
		now:      year,
		harsh:    truth{girth: girth.Low, side: r.Side.High, up: r.Up.High, heal: r.Heal.High},
		mild:     truth{girth: girth.High, side: r.Side.Low, up: r.Up.Low, heal: r.Heal.Low},
	}
}

// turnOf returns the least turn that is at least so many millimetres long around the trunk.
func (is truth) turnOf(length int) int {
	return (api.Turn*length + is.girth - 1) / is.girth
}

// counts reports whether a hole counts.
func (s *search) counts(h api.Hole, is truth) bool {
	return s.now-h.Year < is.heal
}

// reaches reports whether a hole counts, and forbids any spot with this height.
func (s *search) reaches(h api.Hole, height int, is truth) bool {
	return s.counts(h, is) && distance(h.Spot.Height, height) < is.up
}

// forbids reports whether a hole forbids a spot.
func (s *search) forbids(h api.Hole, spot api.Spot, is truth) bool {
	return s.reaches(h, spot.Height, is) && turn(h.Spot.Angle, spot.Angle) < is.turnOf(is.side)
}

// apart returns the least turn between angles that are apart.
func (s *search) apart() int {
	return s.harsh.turnOf(s.Apart)
}

// taps returns how many taps the tree may have.
func (s *search) taps(is truth) int {
	open := s.Open
	for _, h := range s.Holes {
		if s.counts(h, is) {
			open--
		}
	}
	return min(s.bySize(is.girth), s.Healths[s.Health], max(open, 0))
}

// bySize returns how many taps a trunk may have that is so many millimetres around.
func (s *search) bySize(girth int) int {
	taps := 0
	for _, size := range s.Sizes {
		if size.Girth <= girth {
			taps = size.Taps
		}
	}
	return taps
}

// distance returns the difference of two numbers without its sign.
func distance(a, b int) int { return max(a-b, b-a) }

// turn returns the turn from one angle to another one.
func turn(a, b int) int {
	d := distance(a, b)
	return min(d, api.Turn-d)
}
