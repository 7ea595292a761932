package candy

import (
	"spile/api"
	"spile/span"
)

// batch is how a batch of syrup stands, with the rules by which it is made.
type batch struct {
	api.CandyState
	api.CandyRules
}

// newBatch returns the batch of sap before any act, or the error of the rules or of the sap.
func newBatch(r api.CandyRules, s api.Sap) (*batch, api.Errno) {
	if e := Check(r); e != api.OK {
		return nil, e
	}
	brix, e := span.Brix(s)
	if e != api.OK {
		return nil, e
	}
	if s.Sugar == 0 {
		return nil, api.ErrNone
	}
	return &batch{api.CandyState{Dense: brix}, r}, api.OK
}

// works returns what each kind of act does.
func works() map[api.CandyActKind]func(*batch, api.CandyAct) api.Errno {
	return map[api.CandyActKind]func(*batch, api.CandyAct) api.Errno{
		api.CandyCook: (*batch).cook,
		api.CandyCool: (*batch).cool,
		api.CandyStir: (*batch).stir,
		api.CandySeed: (*batch).seed,
	}
}

// carryOut carries out an act.
func (b *batch) carryOut(a api.CandyAct) api.Errno {
	work, known := works()[a.Kind]
	unused := a.Mass != 0
	if a.Kind == api.CandySeed {
		unused = a.Range != api.Range{}
	}
	if !known || unused {
		return api.ErrArg
	}
	return work(b, a)
}

// cook boils water off until the syrup boils at the temperatures of an act.
func (b *batch) cook(a api.CandyAct) api.Errno {
	if b.Begun {
		return api.ErrState
	}
	dense, e := b.boiling(a.Range)
	if e != api.OK {
		return e
	}
	b.Dense, b.Heat = greatest(b.Dense, dense), a.Range
	return api.OK
}

// cool lets the syrup cool to the temperatures of an act.
func (b *batch) cool(a api.CandyAct) api.Errno {
	if !lie(-api.MaxHeat, api.MaxHeat, a.Range) || a.Range.Low > b.Heat.Low || a.Range.High > b.Heat.High {
		return api.ErrRange
	}
	b.Heat = a.Range
	return api.OK
}

// stir stirs for the minutes of an act.
func (b *batch) stir(a api.CandyAct) api.Errno {
	if !lie(0, api.MaxStir, a.Range) {
		return api.ErrRange
	}
	if b.Stirred.High+a.Range.High > api.MaxStir {
		return api.ErrOver
	}
	if !b.Begun {
		b.Begun, b.Start = true, b.Heat
	}
	b.Stirred.Low += a.Range.Low
	b.Stirred.High += a.Range.High
	return api.OK
}

// seed adds the crystals of an act.
func (b *batch) seed(a api.CandyAct) api.Errno {
	if !in(0, api.MaxSeed, a.Mass) {
		return api.ErrRange
	}
	if b.Seed+a.Mass > api.MaxSeed {
		return api.ErrOver
	}
	b.Seed += a.Mass
	return api.OK
}

// boiling returns how dense syrup is that boils at a temperature.
func (b *batch) boiling(temperature api.Range) (api.Range, api.Errno) {
	if !lie(-api.MaxHeat, api.MaxHeat, temperature) {
		return api.Range{}, api.ErrArg
	}
	high, ok := b.least(temperature.High - b.Base.Low)
	if !ok {
		return api.Range{}, api.ErrNone
	}
	// What is not as hot is not as dense: if there is a density for the one end, there is one for the other.
	low, _ := b.least(temperature.Low - b.Base.High)
	return api.Range{Low: low, High: high}, api.OK
}

// least returns the least density at which syrup boils at least so much hotter than water, if there is one.
func (b *batch) least(hotter int) (int, bool) {
	// The table is valid, and so is the range, as nothing is hotter than MaxHeat: so there is no error.
	places, _ := span.Where(b.Elevation, api.Range{Low: hotter, High: api.MaxHeat})
	if len(places) == 0 {
		return 0, false
	}
	return places[0].Low, true
}

// greatest returns the greatest one of ranges: it has the greatest Low of all, and the greatest High.
func greatest(first api.Range, others ...api.Range) api.Range {
	for _, r := range others {
		first = api.Range{Low: max(first.Low, r.Low), High: max(first.High, r.High)}
	}
	return first
}
