package barrel

import (
	"iter"
	"math/bits"
	"slices"

	"spile/api"
	"spile/span"
)

// Mixed returns kegs that are poured together, and Kegged the grade of a keg.
func Mixed(l []api.Keg) (api.Keg, api.Errno) {
	if e := checkKegs(l); e != api.OK {
		return api.Keg{}, e
	}
	if len(l) == 0 {
		return api.Keg{}, api.ErrForm
	}
	return poured(l...), api.OK
}

func Kegged(r api.GradeRules, k api.Keg) (int, api.Errno) {
	if e := CheckGrades(r); e != api.OK {
		return 0, e
	}
	if !validKeg(k) {
		return 0, api.ErrArg
	}
	return judge{r}.kegged(k), api.OK
}

// Blend returns the kegs that are best poured together, and by how much more all of them are worth then.
func Blend(r api.GradeRules, l []api.Keg) (best []int, gain int, e api.Errno) {
	if e := CheckGrades(r); e != api.OK {
		return nil, 0, e
	}
	if e := checkKegs(l); e != api.OK {
		return nil, 0, e
	}
	j := judge{r}
	for choice := range choices(len(l)) {
		var chosen []api.Keg
		for _, i := range choice {
			chosen = append(chosen, l[i])
		}
		more := j.worth(poured(chosen...)) - j.worth(chosen...)
		// No choice is smaller than none, so that what is worth nothing more is not taken.
		if more > gain || more == gain && slices.Compare(choice, best) < 0 {
			best, gain = choice, more
		}
	}
	return best, gain, api.OK
}

// checkKegs returns the error of a list of kegs, which may be empty.
func checkKegs(l []api.Keg) api.Errno {
	if len(l) > api.MaxKegs {
		return api.ErrLong
	}
	if slices.ContainsFunc(l, func(k api.Keg) bool { return !validKeg(k) }) {
		return api.ErrArg
	}
	return api.OK
}

// validKeg reports whether a keg is valid.
func validKeg(k api.Keg) bool {
	return in(0, api.MaxMass, k.Sap.Water, k.Sap.Sugar) && in(1, api.MaxBarrel, mass(k.Sap)) &&
		in(0, api.MaxLight, k.Light) && in(1, api.MaxFlavour, k.Flavour)
}

// kegged returns the grade of a keg.
func (j judge) kegged(k api.Keg) int {
	sugar := k.Sap.Sugar * api.MaxBrix
	dense := in(j.Density.Low*mass(k.Sap), j.Density.High*mass(k.Sap), sugar)
	return j.grade(k.Light, k.Flavour, dense)
}

// worth returns what kegs are worth if each stays by itself: the price of each gram, not of each kilogram.
func (j judge) worth(kegs ...api.Keg) int {
	all := 0
	for _, k := range kegs {
		all += j.price(j.kegged(k)) * mass(k.Sap)
	}
	return all
}

// poured returns kegs poured together, at least one.
func poured(kegs ...api.Keg) api.Keg {
	var saps []api.Sap
	var all api.Keg
	for _, k := range kegs {
		saps = append(saps, k.Sap)
		all.Light += k.Light * mass(k.Sap)
		all.Flavour = max(all.Flavour, k.Flavour)
	}
	// Even all kegs are far from what Mix can not answer.
	all.Sap, _ = span.Mix(saps)
	all.Light /= mass(all.Sap)
	return all
}

// choices yields all lists of at least two of so many kegs.
func choices(kegs int) iter.Seq[[]int] {
	return func(yield func([]int) bool) {
		for set := range 1 << kegs {
			if bits.OnesCount(uint(set)) >= 2 && !yield(slices.Collect(members(set))) {
				return
			}
		}
	}
}

// mass returns water and sugar together.
func mass(s api.Sap) int { return s.Water + s.Sugar }
