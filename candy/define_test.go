package candy_test

import (
	"maps"
	"slices"
	"sort"

	"spile/api"
)

// liesIn reports whether a range is a valid one from a to b.
func liesIn(r api.Range, a, b int) bool { return a <= r.Low && r.Low <= r.High && r.High <= b }

// validTable reports whether a table is valid, with X and Y within bounds.
func validTable(t []api.Row, leastX, mostX, leastY, mostY int) bool {
	for i, row := range t {
		if row.X < leastX || row.X > mostX || row.Y < leastY || row.Y > mostY || i > 0 && row.X <= t[i-1].X {
			return false
		}
	}
	return len(t) >= 2 && len(t) <= 60
}

// checkOf and the next ones return what a function must return by its definition.
func checkOf(r api.CandyRules) api.Errno {
	ok := validTable(r.Elevation, 0, 10000, 0, 2000) && validTable(r.Solubility, -2000, 2000, 0, 9999) && liesIn(r.Base, 0, 2000) && len(r.Products) >= 1 && len(r.Products) <= 8
	for i := 1; i < len(r.Elevation); i++ {
		ok = ok && r.Elevation[i].Y > r.Elevation[i-1].Y
	}
	for _, p := range r.Products {
		ok = ok && liesIn(p.Dense, 1, 10000) && liesIn(p.Start, -2000, 2000) && liesIn(p.Stirred, 0, 1000) && p.Seed >= 0 && p.Seed <= 1000000 && p.Work >= 0 && p.Work <= 100000
	}
	if !ok {
		return api.ErrArg
	}
	return api.OK
}

// valueAt returns the value of a table at x as a fraction.
func valueAt(t []api.Row, x int) (num, den int) {
	for i := 1; ; i++ {
		if a, b := t[i-1], t[i]; x <= b.X {
			return a.Y*(b.X-a.X) + (b.Y-a.Y)*(x-a.X), b.X - a.X
		}
	}
}

// leastOf returns the least density whose value is at least y, or one more than the greatest density.
func leastOf(t []api.Row, y int) int {
	first, last := t[0].X, t[len(t)-1].X
	return first + sort.Search(last-first+1, func(i int) bool {
		num, den := valueAt(t, first+i)
		return num >= y*den
	})
}

func denseOf(r api.CandyRules, temperature api.Range) (api.Range, api.Errno) {
	if e := checkOf(r); e != api.OK {
		return api.Range{}, e
	}
	if !liesIn(temperature, -2000, 2000) {
		return api.Range{}, api.ErrArg
	}
	dense := between(leastOf(r.Elevation, temperature.Low-r.Base.High), leastOf(r.Elevation, temperature.High-r.Base.Low))
	if dense.High > r.Elevation[len(r.Elevation)-1].X {
		return api.Range{}, api.ErrNone
	}
	return dense, api.OK
}

func validSap(s api.Sap) bool {
	return s.Water >= 0 && s.Sugar >= 0 && s.Water <= 1000000000000 && s.Sugar <= 1000000000000
}

// saturations returns all saturations at the temperatures of a range, rounded down and rounded up.
func saturations(t []api.Row, temperature api.Range) api.Range {
	all := between(high, low)
	for x := temperature.Low; x <= temperature.High; x++ {
		num, den := valueAt(t, x)
		all = between(min(all.Low, num/den), max(all.High, (num+den-1)/den))
	}
	return all
}

func crystalsOf(r api.CandyRules, s api.Sap, temperature api.Range) (api.Range, api.Errno) {
	if e := checkOf(r); e != api.OK {
		return api.Range{}, e
	}
	if !validSap(s) || !liesIn(temperature, -1000000000000000, 1000000000000000) {
		return api.Range{}, api.ErrArg
	}
	if temperature.Low < r.Solubility[0].X || temperature.High > r.Solubility[len(r.Solubility)-1].X {
		return api.Range{}, api.ErrRange
	}
	all, y := between(high, low), saturations(r.Solubility, temperature)
	for at := y.Low; at <= y.High; at++ {
		n := max(0, s.Sugar-s.Water*at/(10000-at))
		all = between(min(all.Low, n), max(all.High, n))
	}
	return all, api.OK
}

// makeOf also returns the number of the act with the error.
func makeOf(r api.CandyRules, s api.Sap, l []api.CandyAct) (behind []api.CandyState, at int, e api.Errno) {
	switch {
	case checkOf(r) != api.OK || !validSap(s):
		return nil, 0, api.ErrArg
	case s.Sugar == 0:
		return nil, 0, api.ErrNone
	case len(l) > 30:
		return nil, 0, api.ErrLong
	}
	mass := s.Water + s.Sugar
	x := standing(between(s.Sugar*10000/mass, (s.Sugar*10000+mass-1)/mass), just(0))
	for i, a := range l {
		if x, e = behindAct(r, x, a); e != api.OK {
			return nil, i, e
		}
		behind = append(behind, x)
	}
	return behind, 0, api.OK
}

// behindAct returns the state behind an act.
func behindAct(r api.CandyRules, x api.CandyState, a api.CandyAct) (api.CandyState, api.Errno) {
	unused := a.Mass != 0
	if a.Kind == 4 {
		unused = a.Range.Low != 0 || a.Range.High != 0
	}
	switch {
	case a.Kind < 1 || a.Kind > 4 || unused:
		return x, api.ErrArg
	case a.Kind == 1 && x.Begun:
		return x, api.ErrState
	case a.Kind == 2 && (!liesIn(a.Range, -2000, 2000) || a.Range.Low > x.Heat.Low || a.Range.High > x.Heat.High):
		return x, api.ErrRange
	case a.Kind == 3 && !liesIn(a.Range, 0, 1000):
		return x, api.ErrRange
	case a.Kind == 3 && (x.Stirred.High+a.Range.High > 1000 || x.Stirred.Low+a.Range.Low > 1000):
		return x, api.ErrOver
	case a.Kind == 4 && (a.Mass < 0 || a.Mass > 1000000):
		return x, api.ErrRange
	case a.Kind == 4 && x.Seed+a.Mass > 1000000:
		return x, api.ErrOver
	}
	switch a.Kind {
	case 1:
		dense, e := denseOf(r, a.Range)
		if e != api.OK {
			return x, e
		}
		x.Dense, x.Heat = between(max(x.Dense.Low, dense.Low), max(x.Dense.High, dense.High)), a.Range
	case 2:
		x.Heat = a.Range
	case 3:
		if !x.Begun {
			x.Start = x.Heat
		}
		x.Begun = true
		x.Stirred = between(x.Stirred.Low+a.Range.Low, x.Stirred.High+a.Range.High)
	case 4:
		x.Seed += a.Mass
	}
	return x, api.OK
}

// productAt returns the product of one truth.
func productAt(r api.CandyRules, dense, start, stirred, seed int) int {
	for i, p := range r.Products {
		if p.Dense.Low <= dense && dense <= p.Dense.High && p.Start.Low <= start && start <= p.Start.High && p.Stirred.Low <= stirred && stirred <= p.Stirred.High && p.Seed <= seed {
			return i
		}
	}
	return -1
}

// productsOf looks at all truths of which each number is told by a call.
func productsOf(r api.CandyRules, x api.CandyState, numbers func(x api.Range, ofProducts []api.Range) []int) ([]int, api.Errno) {
	const far = 1000000000000000
	if checkOf(r) != api.OK || !liesIn(x.Dense, -far, far) || !liesIn(x.Start, -far, far) || !liesIn(x.Stirred, -far, far) {
		return nil, api.ErrArg
	}
	if !x.Begun {
		return nil, api.ErrState
	}
	var dense, start, stirred []api.Range
	for _, p := range r.Products {
		dense, start, stirred = append(dense, p.Dense), append(start, p.Start), append(stirred, p.Stirred)
	}
	is := map[int]bool{}
	for _, a := range numbers(x.Dense, dense) {
		for _, b := range numbers(x.Start, start) {
			for _, c := range numbers(x.Stirred, stirred) {
				is[productAt(r, a, b, c, x.Seed)] = true
			}
		}
	}
	return slices.Sorted(maps.Keys(is)), api.OK
}

// each returns all numbers of a range, and ends those at its ends, and at the ends of other ranges and beside them.
func each(x api.Range, _ []api.Range) []int {
	var l []int
	for n := x.Low; n <= x.High; n++ {
		l = append(l, n)
	}
	return l
}

func ends(x api.Range, others []api.Range) []int {
	l := list(x.Low, x.High)
	for _, o := range others {
		l = append(l, o.Low-1, o.Low, o.High, o.High+1)
	}
	l = slices.DeleteFunc(l, func(n int) bool { return n < x.Low || n > x.High })
	slices.Sort(l)
	return slices.Compact(l)
}

// massOf returns the greatest mass of sap, at most what it has, in which the concentration is reached.
func massOf(s api.Sap, brix int) int {
	return min(s.Water+s.Sugar, s.Sugar*10000/brix)
}

func yieldOf(s api.Sap, x api.CandyState) (api.Range, api.Errno) {
	if !validSap(s) || !liesIn(x.Dense, 1, 10000) || x.Seed < 0 || x.Seed > 1000000 {
		return api.Range{}, api.ErrArg
	}
	if s.Sugar == 0 {
		return api.Range{}, api.ErrNone
	}
	return between(massOf(s, x.Dense.High)+x.Seed, massOf(s, x.Dense.Low)+x.Seed), api.OK
}

func needsOf(r api.CandyRules, o api.CandyOrder) (sugar, work int, e api.Errno) {
	if checkOf(r) != api.OK || o.Product < 0 || o.Product >= len(r.Products) || o.Mass < 1 || o.Mass > 1000000000 || o.Price < 0 || o.Price > 1000000000 {
		return 0, 0, api.ErrArg
	}
	p := r.Products[o.Product]
	sugar, work = o.Mass*p.Dense.High/10000, o.Mass*p.Work/1000
	if sugar*10000 < o.Mass*p.Dense.High {
		sugar++
	}
	if work*1000 < o.Mass*p.Work {
		work++
	}
	return sugar, work, api.OK
}

// someOf returns the numbers of a set that is told as bits.
func someOf(bits int) []int {
	var l []int
	for i := range 62 {
		if bits>>i&1 == 1 {
			l = append(l, i)
		}
	}
	return l
}

// bestOf looks at all sets of orders.
func bestOf(r api.CandyRules, l []api.CandyOrder, sugar, work int) (best []int, pay int, e api.Errno) {
	if checkOf(r) != api.OK {
		return nil, 0, api.ErrArg
	}
	if len(l) > 14 {
		return nil, 0, api.ErrLong
	}
	for _, o := range l {
		if _, _, e := needsOf(r, o); e != api.OK {
			return nil, 0, e
		}
	}
	if sugar < 0 || sugar > 1000000000000 || work < 0 {
		return nil, 0, api.ErrRange
	}
	needs := make([][2]int, len(l))
	for i, o := range l {
		needs[i][0], needs[i][1], _ = needsOf(r, o)
	}
	for bits := range 1 << len(l) {
		some, left, after, paid := someOf(bits), sugar, work, 0
		for _, i := range some {
			left, after, paid = left-needs[i][0], after-needs[i][1], paid+l[i].Price
		}
		if left >= 0 && after >= 0 && (paid > pay || paid == pay && slices.Compare(some, best) < 0) {
			best, pay = some, paid
		}
	}
	return best, pay, api.OK
}
