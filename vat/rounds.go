package vat

import (
	"iter"
	"math/bits"

	"spile/api"
)

// whole is all of something, in ten-thousandths.
const whole = 10000

// Squeeze returns what a round leaves and takes off.
func Squeeze(s api.Sap, take, pass int) (kept, gone api.Sap, e api.Errno) {
	return Rounds(s, take, pass, 1)
}

// Rounds returns what so many rounds leave and take off.
func Rounds(s api.Sap, take, pass, rounds int) (kept, gone api.Sap, e api.Errno) {
	if !validSap(s) {
		return api.Sap{}, api.Sap{}, api.ErrArg
	}
	if !in(0, api.MaxTake, take, pass) || !in(0, api.MaxRounds, rounds) {
		return api.Sap{}, api.Sap{}, api.ErrRange
	}
	for kept, gone = range behind(s, take, pass, rounds) {
		// What comes last is what is wanted.
	}
	return kept, gone, api.OK
}

// Reach returns how many rounds are needed for a concentration.
func Reach(s api.Sap, m api.Membrane, brix, most int) (api.Range, api.Errno) {
	if !validSap(s) || !in(0, api.MaxTake, m.Take) || !rangeIn(m.Pass, 0, api.MaxTake) {
		return api.Range{}, api.ErrArg
	}
	if !in(1, api.MaxBrix, brix) || !in(0, api.MaxRounds, most) {
		return api.Range{}, api.ErrRange
	}
	dense := func(s api.Sap) bool { return s.Sugar > 0 && s.Sugar*whole >= brix*(s.Water+s.Sugar) }
	// The more passes, the less sugar is kept, beside the same water: so no number within Pass needs fewer rounds than its Low, or more than its High.
	needs := api.Range{
		Low:  first(behind(s, m.Take, m.Pass.Low, most), dense),
		High: first(behind(s, m.Take, m.Pass.High, most), dense),
	}
	if needs.High < 0 {
		return api.Range{}, api.ErrNone
	}
	return needs, api.OK
}

// behind yields what is kept, and what has gone, behind 0 rounds, behind 1, and so on up to the last one.
func behind(s api.Sap, take, pass, rounds int) iter.Seq2[api.Sap, api.Sap] {
	return func(yield func(kept, gone api.Sap) bool) {
		kept, gone := s, api.Sap{}
		for n := 0; yield(kept, gone) && n < rounds; n++ {
			off := through(kept, take, pass)
			kept.Water -= off.Water
			kept.Sugar -= off.Sugar
			gone = sum(gone, off)
		}
	}
}

// first returns behind how many rounds a condition first holds for what is kept, or -1.
func first(rounds iter.Seq2[api.Sap, api.Sap], holds func(api.Sap) bool) int {
	n := 0
	for kept := range rounds {
		if holds(kept) {
			return n
		}
		n++
	}
	return -1
}

// through returns what a round takes off.
func through(s api.Sap, take, pass int) api.Sap {
	if s.Water == 0 {
		return api.Sap{}
	}
	water := s.Water * take / whole
	// The product can be greater than any int; the quotient is at most all sugar.
	high, low := bits.Mul64(uint64(s.Sugar*pass), uint64(water))
	sugar, _ := bits.Div64(high, low, uint64(s.Water*whole))
	return api.Sap{Water: water, Sugar: int(sugar)}
}
