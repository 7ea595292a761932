package vat

import (
	"slices"

	"spile/api"
	"spile/span"
)

// vessel is a tank: how many grams it holds, its film, and its lots in the order of their times.
type vessel struct {
	size int
	film api.Range
	lots []lot
}

// lot is sap that came into a tank at once, with its load and the time of its pouring. A lot in a tank has a mass above 0.
type lot struct {
	api.Sap
	load   api.Range
	poured int
}

// hasRoom reports whether lots can come into the tank, too.
func (v *vessel) hasRoom(lots ...lot) bool {
	return len(v.lots)+len(lots) <= api.MaxLots && massOf(v.lots...)+massOf(lots...) <= v.size
}

// hold adds lots, one after another, each with at least the germs of the film.
func (v *vessel) hold(lots ...lot) {
	for _, l := range lots {
		l.load = api.Range{Low: max(l.load.Low, v.film.Low), High: max(l.load.High, v.film.High)}
		at := slices.IndexFunc(v.lots, func(other lot) bool { return other.poured > l.poured })
		if at < 0 {
			at = len(v.lots)
		}
		v.lots = slices.Insert(v.lots, at, l)
	}
}

// draw returns what must be taken from the lots for so many grams, and what is left of them then. The tank stays as it is.
func (v *vessel) draw(mass int) (taken, left []lot, e api.Errno) {
	if !in(1, massOf(v.lots...), mass) {
		return nil, nil, api.ErrRange
	}
	for _, l := range v.lots {
		part, rest := l, l
		// No more is drawn than the lot has, so that there is no error.
		part.Sap, rest.Sap, _ = span.Draw(l.Sap, min(mass, l.mass()))
		mass -= part.mass()
		if part.mass() > 0 {
			taken = append(taken, part)
		}
		if rest.mass() > 0 {
			left = append(left, rest)
		}
	}
	return taken, left, api.OK
}

// valid reports whether a lot can be poured.
func (l lot) valid() bool {
	return validSap(l.Sap) && l.mass() > 0 && rangeIn(l.load, 0, api.MaxGerms)
}

// mass returns water and sugar together.
func (l lot) mass() int { return l.Water + l.Sugar }

// germs returns the load.
func (l lot) germs() api.Range { return l.load }

// validSap reports whether sap is valid.
func validSap(s api.Sap) bool { return in(0, api.MaxMass, s.Water, s.Sugar) }

// sum returns sap together.
func sum(all ...api.Sap) api.Sap {
	var s api.Sap
	for _, a := range all {
		s.Water += a.Water
		s.Sugar += a.Sugar
	}
	return s
}

// together returns the sap of lots together.
func together(lots ...lot) api.Sap {
	var s api.Sap
	for _, l := range lots {
		s = sum(s, l.Sap)
	}
	return s
}

// massOf returns the mass of lots together.
func massOf(lots ...lot) int { return lot{Sap: together(lots...)}.mass() }

// count returns for how many lots a condition holds.
func count(holds func(lot) bool, lots ...lot) int {
	n := 0
	for _, l := range lots {
		if holds(l) {
			n++
		}
	}
	return n
}

// around returns the least range in which what is asked of lots lies. Of no lots this is 0 to 0, as Hull returns it with its error.
func around(ask func(lot) api.Range, lots ...lot) api.Range {
	var all []api.Range
	for _, l := range lots {
		all = append(all, ask(l))
	}
	hull, _ := span.Hull(all)
	return hull
}
