package season

import (
	"slices"

	"spile/api"
	"spile/span"
)

// thinning looks for the trees of a stand that are best cut. A price of wood tells where none can be better.
type thinning struct {
	api.Stand
	price  api.Part
	beside []int
	cut    []int
	worth  int
}

// Thin returns the trees that are worth most to cut.
func Thin(s api.Stand, wood int) (cut []int, worth int, e api.Errno) {
	price, _, e := Price(s, wood)
	if e != api.OK {
		return nil, 0, e
	}
	t := &thinning{Stand: s, price: price, beside: make([]int, len(s.Stems))}
	for _, pair := range t.Beside {
		t.beside[pair[0]] |= 1 << pair[1]
		t.beside[pair[1]] |= 1 << pair[0]
	}
	t.search(nil, 0, wood, 0)
	return t.cut, t.worth, api.OK
}

// Bound returns more than which no trees are worth, by a price of wood.
func Bound(s api.Stand, wood int, price api.Part) (int, api.Errno) {
	if e := checkWood(s, wood); e != api.OK {
		return 0, e
	}
	if !validPart(price) || price.Num < 0 {
		return 0, api.ErrArg
	}
	return bound(price, wood, s.Stems...), api.OK
}

// Price returns the price with the least bound.
func Price(s api.Stand, wood int) (api.Part, int, api.Errno) {
	if e := checkWood(s, wood); e != api.OK {
		return api.Part{}, 0, e
	}
	best := api.Part{Den: 1}
	least := bound(best, wood, s.Stems...)
	for _, stem := range s.Stems {
		// What a valid stem has is far from what can not be a part.
		price, _ := span.MakePart(stem.Worth, stem.Wood)
		order, _ := span.ComparePart(price, best)
		if b := bound(price, wood, s.Stems...); b < least || b == least && order < 0 {
			best, least = price, b
		}
	}
	return best, least, api.OK
}

// validStand reports whether a stand is valid.
func validStand(s api.Stand) bool {
	wrongStem := func(t api.Stem) bool {
		return !in(1, api.MaxStem, t.Wood) || !in(0, api.MaxStem, t.Carbon, t.Worth)
	}
	wrongPair := func(p [2]int) bool {
		return !in(0, len(s.Stems)-1, p[:]...) || p[0] == p[1]
	}
	return len(s.Stems) <= api.MaxStems && !slices.ContainsFunc(s.Stems, wrongStem) &&
		len(s.Beside) <= api.MaxBeside && !slices.ContainsFunc(s.Beside, wrongPair)
}

// checkWood returns the error of a stand, and of how much wood may be cut.
func checkWood(s api.Stand, wood int) api.Errno {
	if !validStand(s) {
		return api.ErrArg
	}
	if !in(0, api.MaxStems*api.MaxStem, wood) {
		return api.ErrRange
	}
	return api.OK
}

// validPart reports whether a part is valid.
func validPart(p api.Part) bool {
	_, e := span.ComparePart(p, p)
	return e == api.OK
}

// bound returns more than which no trees are worth that have so much wood, by a price of wood.
func bound(price api.Part, wood int, stems ...api.Stem) int {
	sum := price.Num * wood
	for _, s := range stems {
		sum += max(0, s.Worth*price.Den-price.Num*s.Wood)
	}
	return sum / price.Den
}

// search looks at a list of trees that are cut, and then at all lists that begin with it and go on with trees from one on; so much wood is left, and some trees, as bits, must stand. As the lists come in ascending order, only what is worth more is better than what was found before.
func (t *thinning) search(cut []int, worth, wood, stand int) {
	if worth > t.worth {
		t.cut, t.worth = slices.Clone(cut), worth
	}
	from := 0
	if len(cut) > 0 {
		from = cut[len(cut)-1] + 1
	}
	for tree := from; tree < len(t.Stems); tree++ {
		if worth+bound(t.price, wood, t.Stems[tree:]...) <= t.worth {
			return
		}
		if s := t.Stems[tree]; s.Wood <= wood && stand>>tree&1 == 0 {
			t.search(append(cut, tree), worth+s.Worth, wood-s.Wood, stand|t.beside[tree])
		}
	}
}
