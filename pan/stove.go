package pan

import (
	"iter"

	"spile/api"
	"spile/span"
)

// stove is a pan on the fire, with its number, and with what can be in it: before the acts of a minute, after them, and at its end.
type stove struct {
	api.Pan
	number, fire         int
	shut                 bool
	before, ready, level api.Range
}

// part is numbers of a range with the same bounds for what the float lets in. There may be none: then Low is above High.
type part struct {
	api.Range
	in api.Range
}

// acts yields the acts of a minute, with their numbers.
func acts(b api.Boil, minute int) iter.Seq2[int, api.PanAct] {
	return func(yield func(int, api.PanAct) bool) {
		for i, a := range b.Acts {
			if a.Minute == minute && !yield(i, a) {
				return
			}
		}
	}
}

// heed carries out what an act does to the pan.
func (s *stove) heed(a api.PanAct) {
	switch a.Kind {
	case api.PanFire:
		s.fire = a.Amount
	case api.PanMove:
		if a.Pan+1 == s.number {
			s.level = shifted(s.level, a.Amount)
		}
		fallthrough
	case api.PanDraw:
		if a.Pan == s.number {
			s.level = shifted(s.level, -a.Amount)
		}
	case api.PanShut, api.PanOpen:
		if a.Pan == s.number {
			s.shut = a.Kind == api.PanShut
		}
	}
}

// change adds so many grams to what is in the pan, which is known, if this leads to what is possible.
func (s *stove) change(grams int, possible api.Range) bool {
	mass := s.level.Low
	if !in(possible.Low-mass, possible.High-mass, grams) {
		return false
	}
	s.level = shifted(s.level, grams)
	return true
}

// fed returns what can be in the pan when the float has let something in.
func (s stove) fed(level api.Range) api.Range {
	var all []api.Range
	for _, p := range s.parts(level) {
		if p.Low <= p.High {
			all = append(all, api.Range{Low: p.Low + p.in.Low, High: p.High + p.in.High})
		}
	}
	// What the parts lead to overlaps, or lies side by side, so that there can be each number of the hull.
	hull, _ := span.Hull(all)
	return hull
}

// parts returns what of a range is below Low, below High, and from High on.
func (s stove) parts(level api.Range) [3]part {
	if s.shut {
		s.Least, s.Most = 0, 0
	}
	between := func(low, high int) api.Range {
		return api.Range{Low: max(level.Low, low), High: min(level.High, high)}
	}
	return [3]part{
		{between(0, s.Low-1), api.Range{Low: s.Least, High: s.Most}},
		{between(s.Low, s.High-1), api.Range{High: s.Most}},
		{between(s.High, s.Rim), api.Range{}},
	}
}

// boiled returns what can be in the pan when something has boiled off.
func (s stove) boiled(level api.Range) api.Range {
	heat := s.heat()
	return api.Range{Low: max(0, level.Low-heat.High), High: max(0, level.High-heat.Low)}
}

// heat returns how much boils off in a minute, if there is so much.
func (s stove) heat() api.Range {
	// Scale rounds outward, as the fire does; a valid pan and fire have no error.
	heat, _ := span.Scale(api.Range{Low: s.Cool, High: s.Hot}, s.fire, api.MaxFire)
	return heat
}

// later returns what can be in the pan a minute later.
func (s stove) later(level api.Range) api.Range { return s.boiled(s.fed(level)) }

// dry reports whether the pan can have run dry.
func (s stove) dry() bool { return s.level.Low < s.Dry }

// shifted returns a range with so many grams more.
func shifted(a api.Range, grams int) api.Range {
	return api.Range{Low: a.Low + grams, High: a.High + grams}
}
