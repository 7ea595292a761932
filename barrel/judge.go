package barrel

import (
	"iter"
	"math/bits"
	"slices"

	"spile/api"
)

// kilogram is how many grams a price is for.
const kilogram = 1000

// judge is the rules, with what can be told by them.
type judge struct {
	api.GradeRules
}

// grade returns the grade of syrup that is good, or is not: by its density, and by bad tastes.
func (j judge) grade(light, flavour int, good bool) int {
	class := slices.IndexFunc(j.Classes, func(c api.GradeClass) bool { return c.Least <= light })
	if class < 0 || !good || !holds(j.Classes[class].Flavour, flavour) {
		return api.NoGrade
	}
	return class
}

// price returns the price of a grade, and prices those of several ones.
func (j judge) price(grade int) int {
	if grade == api.NoGrade {
		return j.Price
	}
	return j.Classes[grade].Price
}

func (j judge) prices(grades ...int) []int {
	var l []int
	for _, grade := range grades {
		l = append(l, j.price(grade))
	}
	return l
}

// panel returns the strength of the flavour, and the bad tastes that possibly and surely count.
func (j judge) panel(tasters []api.Taster) (flavour api.Range, possibly, surely int) {
	low := func(t api.Taster) int { return t.Flavour.Low }
	high := func(t api.Taster) int { return t.Flavour.High }
	perhaps := func(t api.Taster) int { return t.Perhaps }
	sure := func(t api.Taster) int { return t.Sure }
	// The more a taster says, the greater is the strength, or it stays: so it is least and greatest at the ends.
	flavour = api.Range{Low: strength(answers(tasters, low)...), High: strength(answers(tasters, high)...)}
	return flavour, j.counting(answers(tasters, perhaps)...), j.counting(answers(tasters, sure)...)
}

// counting returns the bad tastes that count, if each of some tasters finds a set of them.
func (j judge) counting(found ...int) int {
	count := 0
	for taste := range members(api.MaxTastes) {
		finds := 0
		for _, set := range found {
			finds += set >> taste & 1
		}
		if finds >= j.Bad {
			count |= 1 << taste
		}
	}
	return count
}

// grades returns the grades that are possible, in ascending order.
func (j judge) grades(density api.Range, t api.BarrelTest) []int {
	flavour, possibly, surely := j.panel(t.Panel)
	good := surely == 0 && density.Low <= j.Density.High && j.Density.Low <= density.High
	bad := possibly != 0 || !holds(j.Density, density.Low, density.High)
	// NoGrade is -1: so each grade stands one place behind its number.
	var possible [api.MaxGrades - api.NoGrade]bool
	for _, light := range j.lights(t.Light) {
		for strength := flavour.Low; strength <= flavour.High; strength++ {
			grade := j.grade(light, strength, good)
			possible[grade-api.NoGrade] = true
		}
	}
	possible[0] = possible[0] || bad
	var l []int
	for place, ok := range possible {
		if ok {
			l = append(l, place+api.NoGrade)
		}
	}
	return l
}

// lights returns one light of each class, and of none, that lights of a range have: the least ones.
func (j judge) lights(a api.Range) []int {
	l := []int{a.Low}
	for _, c := range j.Classes {
		if holds(a, c.Least) {
			l = append(l, c.Least)
		}
	}
	return l
}

// answers returns what each taster answers when it is asked.
func answers(tasters []api.Taster, ask func(api.Taster) int) []int {
	var l []int
	for _, t := range tasters {
		l = append(l, ask(t))
	}
	return l
}

// strength returns the strength of the flavour if each taster says a number.
func strength(said ...int) int {
	return slices.Sorted(slices.Values(said))[(len(said)-1)/2]
}

// members yields the numbers of the bits of a set, in ascending order.
func members(set int) iter.Seq[int] {
	return func(yield func(int) bool) {
		for n := range bits.Len(uint(set)) {
			if set>>n&1 == 1 && !yield(n) {
				return
			}
		}
	}
}
