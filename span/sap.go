package span

import "spile/api"

// Mix returns all sap together.
func Mix(l []api.Sap) (api.Sap, api.Errno) {
	if len(l) > api.MaxSum {
		return api.Sap{}, api.ErrLong
	}
	var all batch
	for _, s := range l {
		if !(batch{s}).valid() {
			return api.Sap{}, api.ErrArg
		}
		all.Water += s.Water
		all.Sugar += s.Sugar
	}
	if !all.valid() {
		return api.Sap{}, api.ErrOver
	}
	return all.Sap, api.OK
}

// Draw draws so many grams.
func Draw(s api.Sap, mass int) (drawn, left api.Sap, e api.Errno) {
	b := batch{s}
	if !b.valid() {
		return api.Sap{}, api.Sap{}, api.ErrArg
	}
	if mass < 0 || mass > b.mass() {
		return api.Sap{}, api.Sap{}, api.ErrRange
	}
	drawn = b.draw(mass)
	return drawn, b.Sap, api.OK
}

// Split shares sap by weights.
func Split(s api.Sap, weights []int) ([]api.Sap, api.Errno) {
	b := batch{s}
	if !b.valid() {
		return nil, api.ErrArg
	}
	masses, e := Share(b.mass(), weights)
	if e != api.OK {
		return nil, e
	}
	var parts []api.Sap
	for _, mass := range masses {
		parts = append(parts, b.draw(mass))
	}
	return parts, api.OK
}

// Brix returns the concentration.
func Brix(s api.Sap) (api.Range, api.Errno) {
	b := batch{s}
	if !b.valid() {
		return api.Range{}, api.ErrArg
	}
	if b.mass() == 0 {
		return api.Range{}, api.ErrNone
	}
	return quotientOf(b.Sugar, api.MaxBrix, b.mass()).around(), api.OK
}

// Boil returns how much water must go off.
func Boil(s api.Sap, brix int) (int, api.Errno) {
	b := batch{s}
	if e := b.checkBrix(brix); e != api.OK {
		return 0, e
	}
	return max(0, b.mass()-b.massAt(brix)), api.OK
}

// Thin returns how much water can be added.
func Thin(s api.Sap, brix int) (int, api.Errno) {
	b := batch{s}
	if e := b.checkBrix(brix); e != api.OK {
		return 0, e
	}
	more := b.massAt(brix) - b.mass()
	if more < 0 {
		return 0, api.ErrNone
	}
	if b.Water+more > api.MaxMass {
		return 0, api.ErrOver
	}
	return more, api.OK
}

// batch is sap, with what can be done with it.
type batch struct {
	api.Sap
}

// valid reports whether the sap is valid.
func (b batch) valid() bool {
	return 0 <= b.Water && b.Water <= api.MaxMass && 0 <= b.Sugar && b.Sugar <= api.MaxMass
}

// mass returns water and sugar together.
func (b batch) mass() int {
	return b.Water + b.Sugar
}

// draw takes so many grams, at most the mass, off.
func (b *batch) draw(mass int) api.Sap {
	if mass == 0 {
		return api.Sap{}
	}
	sugar := quotientOf(b.Sugar, mass, b.mass()).around().Low
	water := mass - sugar
	b.Sugar -= sugar
	b.Water -= water
	return api.Sap{Water: water, Sugar: sugar}
}

// checkBrix returns the error of sap that shall have a concentration.
func (b batch) checkBrix(brix int) api.Errno {
	switch {
	case !b.valid():
		return api.ErrArg
	case brix < 1 || brix > api.MaxBrix:
		return api.ErrRange
	case b.Sugar == 0:
		return api.ErrNone
	}
	return api.OK
}

// massAt returns the greatest mass in which the sugar still has the concentration.
func (b batch) massAt(brix int) int {
	return quotientOf(b.Sugar, api.MaxBrix, brix).around().Low
}
