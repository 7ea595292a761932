package vat_test

import (
	"cmp"
	"fmt"
	"math/big"
	"math/rand/v2"
	"slices"
	"testing"

	"spile/api"
	"spile/vat"
)

// keeper is a cellar: that of the package, or one that does what the chapter defines.
type keeper interface {
	Pour(tank int, s api.Sap, load api.Range) api.Errno
	Draw(tank, mass int) (api.Drawn, api.Errno)
	Move(from, to, mass int) api.Errno
	Dump(tank int) (api.Sap, api.Errno)
	Wash(tank int) api.Errno
	Stay(hours int, temperature api.Range) api.Errno
	Tell(tank int) (api.Tank, api.Errno)
	Book() (api.VatBook, api.Errno)
}

// store is a cellar by the definitions, with the lots of all tanks in the order in which they came.
type store struct {
	rules         api.VatRules
	sizes         []int
	films         []api.Range
	lots          []held
	time          int
	in, out, lost api.Sap
}

// held is a lot in a tank. One that has gone is in none.
type held struct {
	tank   int
	sap    api.Sap
	load   api.Range
	poured int
}

const gone = -1

func newStore(l api.VatRules, sizes ...int) *store {
	return &store{rules: l, sizes: sizes, films: make([]api.Range, len(sizes))}
}

// has reports whether all numbers are those of tanks.
func (k *store) has(tanks ...int) bool {
	return !slices.ContainsFunc(tanks, func(n int) bool { return n < 0 || n >= len(k.sizes) })
}

// of returns where the lots of a tank are, from the first to the last one.
func (k *store) of(tank int) []int {
	var all []int
	for i, l := range k.lots {
		if l.tank == tank {
			all = append(all, i)
		}
	}
	slices.SortStableFunc(all, func(i, j int) int { return cmp.Compare(k.lots[i].poured, k.lots[j].poured) })
	return all
}

func (k *store) held(tank int) api.Sap {
	var all api.Sap
	for _, i := range k.of(tank) {
		all = add(all, k.lots[i].sap)
	}
	return all
}

// arrive adds a lot to a tank.
func (k *store) arrive(tank int, l held) {
	f := k.films[tank]
	l.tank, l.load = tank, r(max(l.load.Low, f.Low), max(l.load.High, f.High))
	k.lots = append(k.lots, l)
}

// rangeFits reports whether a range is a load.
func rangeFits(a api.Range) bool { return 0 <= a.Low && a.Low <= a.High && a.High <= top }

func (k *store) Pour(tank int, a api.Sap, load api.Range) api.Errno {
	switch {
	case !k.has(tank):
		return api.ErrNone
	case min(a.Water, a.Sugar) < 0 || max(a.Water, a.Sugar) > ton || mass(a) == 0 || !rangeFits(load):
		return api.ErrArg
	case mass(k.held(tank))+mass(a) > k.sizes[tank] || len(k.of(tank)) == api.MaxLots:
		return api.ErrFull
	}
	all := add(k.in, a)
	if all.Water > ton || all.Sugar > ton {
		return api.ErrOver
	}
	k.in = all
	k.arrive(tank, held{sap: a, load: load, poured: k.time})
	return api.OK
}

// take takes lots, and a part of the last one, from a tank that has enough.
func (k *store) take(tank, m int) []held {
	var taken []held
	for _, i := range k.of(tank) {
		l := &k.lots[i]
		if m >= mass(l.sap) {
			m -= mass(l.sap)
			taken = append(taken, *l)
			l.tank = gone
		} else if m > 0 {
			part := *l
			part.sap.Sugar = down(mass(l.sap), l.sap.Sugar, m)
			part.sap.Water = m - part.sap.Sugar
			l.sap = s(l.sap.Water-part.sap.Water, l.sap.Sugar-part.sap.Sugar)
			taken = append(taken, part)
			m = 0
		}
	}
	return taken
}

func (k *store) Draw(tank, m int) (api.Drawn, api.Errno) {
	if !k.has(tank) {
		return api.Drawn{}, api.ErrNone
	}
	if m < 1 || m > mass(k.held(tank)) {
		return api.Drawn{}, api.ErrRange
	}
	l := k.take(tank, m)
	all, load, age := k.about(l)
	k.out = add(k.out, all)
	return drawn(all, load, age), api.OK
}

// about returns the sap of lots, and the ranges of their loads and ages.
func (k *store) about(l []held) (all api.Sap, load, age api.Range) {
	for i, x := range l {
		a := k.time - x.poured
		if i == 0 {
			load, age = x.load, one(a)
		}
		all = add(all, x.sap)
		load = r(min(load.Low, x.load.Low), max(load.High, x.load.High))
		age = r(min(age.Low, a), max(age.High, a))
	}
	return all, load, age
}

func (k *store) Move(from, to, m int) api.Errno {
	switch {
	case !k.has(from, to):
		return api.ErrNone
	case from == to:
		return api.ErrArg
	case m < 1 || m > mass(k.held(from)):
		return api.ErrRange
	}
	try := &store{lots: slices.Clone(k.lots)}
	l := try.take(from, m)
	if mass(k.held(to))+m > k.sizes[to] || len(k.of(to))+len(l) > api.MaxLots {
		return api.ErrFull
	}
	k.lots = try.lots
	for _, x := range l {
		k.arrive(to, x)
	}
	return api.OK
}

func (k *store) Dump(tank int) (api.Sap, api.Errno) {
	if !k.has(tank) {
		return api.Sap{}, api.ErrNone
	}
	if len(k.of(tank)) == 0 {
		return api.Sap{}, api.ErrState
	}
	all, _, _ := k.about(k.take(tank, mass(k.held(tank))))
	k.lost = add(k.lost, all)
	return all, api.OK
}

func (k *store) Wash(tank int) api.Errno {
	if !k.has(tank) {
		return api.ErrNone
	}
	if len(k.of(tank)) > 0 {
		return api.ErrState
	}
	k.films[tank] = r(0, 0)
	return api.OK
}

// growth returns how much germs grow in an hour at a temperature, of which the table must tell something.
func growth(t []api.Row, x int) api.Range {
	i := 0
	for i < len(t)-2 && x > t[i+1].X {
		i++
	}
	a, b := t[i], t[i+1]
	y := big.NewRat(int64(b.Y-a.Y)*int64(x-a.X), int64(b.X-a.X))
	y.Add(y, big.NewRat(int64(a.Y), 1))
	whole := new(big.Int).Div(y.Num(), y.Denom())
	g := one(int(whole.Int64()))
	if !y.IsInt() {
		g.High++
	}
	return g
}

// growths returns the same for a range of temperatures.
func growths(t []api.Row, a api.Range) api.Range {
	all := growth(t, a.Low)
	for x := a.Low; x <= a.High; x++ {
		g := growth(t, x)
		all = r(min(all.Low, g.Low), max(all.High, g.High))
	}
	return all
}

func (k *store) Stay(hours int, temperature api.Range) api.Errno {
	t := k.rules.Growth
	switch {
	case hours < 0 || hours > api.MaxStay || k.time+hours > api.MaxStay:
		return api.ErrRange
	case temperature.Low > temperature.High:
		return api.ErrArg
	case temperature.Low < t[0].X || temperature.High > t[len(t)-1].X:
		return api.ErrRange
	}
	k.time += hours
	g, f := growths(t, temperature), k.rules.Film
	for range hours {
		for i := range k.lots {
			k.lots[i].load = r(min(top, k.lots[i].load.Low+g.Low), min(top, k.lots[i].load.High+g.High))
		}
		for i, film := range k.films {
			k.films[i] = r(min(top, film.Low+f.Low), min(top, film.High+f.High))
		}
	}
	return api.OK
}

func (k *store) Tell(tank int) (api.Tank, api.Errno) {
	if !k.has(tank) {
		return api.Tank{}, api.ErrNone
	}
	var l []held
	told := api.Tank{Film: k.films[tank]}
	for _, i := range k.of(tank) {
		l = append(l, k.lots[i])
		if k.lots[i].load.High >= k.rules.Limit {
			told.Possibly++
		}
		if k.lots[i].load.Low >= k.rules.Limit {
			told.Surely++
		}
	}
	told.Lots = len(l)
	told.Sap, told.Load, told.Age = k.about(l)
	return told, api.OK
}

func (k *store) Book() (api.VatBook, api.Errno) {
	var all api.Sap
	for tank := range k.sizes {
		all = add(all, k.held(tank))
	}
	return api.VatBook{In: k.in, Out: k.out, Lost: k.lost, Held: all}, api.OK
}

// anyRules returns rules with small numbers.
func anyRules(d *rand.Rand) api.VatRules {
	l := api.VatRules{Limit: pick(d, 1, 600), Film: pickRange(d, 0, 6)}
	x := pick(d, -50, 0)
	for range pick(d, 2, 5) {
		l.Growth = append(l.Growth, api.Row{X: x, Y: pick(d, 0, 40)})
		x += pick(d, 1, 40)
	}
	return l
}

// step is something that is done to a cellar, and returns what it tells.
type step struct {
	name string
	do   func(k keeper) (string, api.Errno)
}

// anyStep returns something that is mostly allowed, in a cellar with so many tanks and such a table.
func anyStep(d *rand.Rand, tanks int, growth []api.Row) step {
	tank, other := pick(d, 0, tanks-1), pick(d, 0, tanks-1)
	if d.IntN(40) == 0 {
		tank = []int{-1, tanks}[d.IntN(2)]
	}
	if d.IntN(40) == 0 {
		other = []int{-1, tanks}[d.IntN(2)]
	}
	m := pick(d, 0, 8)
	if d.IntN(4) == 0 {
		m = pick(d, -1, 60)
	}
	switch d.IntN(16) {
	case 0:
		return step{"Dump", func(k keeper) (string, api.Errno) { a, e := k.Dump(tank); return fmt.Sprint(a), e }}
	case 1:
		return step{"Wash", func(k keeper) (string, api.Errno) { return "", k.Wash(tank) }}
	case 2, 3:
		return anyStay(d, growth)
	case 4, 5, 6:
		return step{"Draw", func(k keeper) (string, api.Errno) { a, e := k.Draw(tank, m); return fmt.Sprint(a), e }}
	case 7, 8, 9:
		return step{"Move", func(k keeper) (string, api.Errno) { return "", k.Move(tank, other, m) }}
	}
	a, load := s(pick(d, 0, 5), pick(d, 0, 3)), pickRange(d, 0, 300)
	if d.IntN(8) == 0 {
		a = s(pick(d, -1, 90), pick(d, -1, 30))
	}
	if d.IntN(20) == 0 {
		load = r(pick(d, -1, 2), pick(d, 0, 2))
	}
	return step{"Pour", func(k keeper) (string, api.Errno) { return "", k.Pour(tank, a, load) }}
}

func anyStay(d *rand.Rand, growth []api.Row) step {
	hours, temperature := pick(d, 0, 6), pickRange(d, growth[0].X, growth[len(growth)-1].X)
	switch d.IntN(12) {
	case 0:
		hours = []int{-1, api.MaxStay, high}[d.IntN(3)]
	case 1:
		temperature.Low = temperature.High + 1
	case 2:
		temperature.High += pick(d, 0, 150)
	case 3:
		temperature.Low -= pick(d, 0, 150)
	}
	return step{"Stay", func(k keeper) (string, api.Errno) { return "", k.Stay(hours, temperature) }}
}

// anyCellars returns a cellar, and one by the definitions.
func anyCellars(t *testing.T, d *rand.Rand) (*vat.Cellar, *store) {
	t.Helper()
	l := anyRules(d)
	var sizes []int
	for range pick(d, 1, 4) {
		sizes = append(sizes, pick(d, 1, 60)*pick(d, 1, 6))
	}
	return newCellar(t, l, sizes...), newStore(l, sizes...)
}
