package candy_test

import (
	"math/rand/v2"
	"slices"
	"testing"

	"spile/api"
	"spile/candy"
)

// smallRules returns rules by which batches of small numbers become products.
func smallRules(d *rand.Rand) api.CandyRules {
	r := anyRules(d)
	xs, ys := ascending(d, 4, 0, 12), ascending(d, 4, 0, 12)
	r.Elevation = nil
	for i := range xs {
		r.Elevation = append(r.Elevation, api.Row{X: xs[i], Y: ys[i]})
	}
	r.Base = anyRange(d, 0, 3)
	return r
}

// smallSap returns sap whose concentration is a small number.
func smallSap(d *rand.Rand) api.Sap { return sap(10000, pick(d, 1, 9)) }

// oneAct returns any act with small numbers.
func oneAct(d *rand.Rand) api.CandyAct {
	switch d.IntN(5) {
	case 0, 1:
		x := anyRange(d, -3, 15)
		return cook(x.Low, x.High)
	case 2:
		x := anyRange(d, -6, 12)
		return cool(x.Low, x.High)
	case 3:
		x := anyRange(d, 0, 4)
		return stir(x.Low, x.High)
	}
	return seed(pick(d, 0, 2))
}

// anyBatch returns so many acts that can be carried out, and the states behind them.
func anyBatch(t *testing.T, d *rand.Rand, r api.CandyRules, s api.Sap, n int) ([]api.CandyAct, []api.CandyState) {
	t.Helper()
	var l []api.CandyAct
	for len(l) < n {
		a := oneAct(d)
		if _, _, e := makeOf(r, s, append(slices.Clone(l), a)); e == api.OK {
			l = append(l, a)
		}
	}
	behind, _, e := candy.Make(r, s, l)
	if e != api.OK || len(behind) != n {
		t.Fatal("Make", r, s, l, behind, e)
	}
	return l, behind
}

// truth is what truly happens: it tells for each range a number of it.
type truth func(api.Range) int

func lowest(r api.Range) int { return r.Low }

func highest(r api.Range) int { return r.High }

// course returns what truly happens to a batch: the numbers of its density, its heat, the heat at which stirring began, and its minutes, behind each act.
func course(r api.CandyRules, s api.Sap, l []api.CandyAct, known, base truth) [][4]int {
	brix := between(s.Sugar*10000/(s.Water+s.Sugar), (s.Sugar*10000+s.Water+s.Sugar-1)/(s.Water+s.Sugar))
	begun, x := false, [4]int{known(brix)}
	var behind [][4]int
	for _, a := range l {
		switch a.Kind {
		case api.CandyCook:
			x[1] = known(a.Range)
			x[0] = max(x[0], leastOf(r.Elevation, x[1]-base(r.Base)))
		case api.CandyCool:
			x[1] = known(a.Range)
		case api.CandyStir:
			if !begun {
				begun, x[2] = true, x[1]
			}
			x[3] += known(a.Range)
		}
		behind = append(behind, x)
	}
	return behind
}

// ranges returns the ranges of a state in the order of those numbers.
func ranges(x api.CandyState) [4]api.Range { return [4]api.Range{x.Dense, x.Heat, x.Start, x.Stirred} }

// TestP11_9EachTruth looks at what truly happens: it lies in the states, and among the products; and both ends of each range are true of some course.
func TestP11_9EachTruth(t *testing.T) {
	d := dice()
	seen := map[int]int{}
	for range 2000 {
		r, s := smallRules(d), smallSap(d)
		l, behind := anyBatch(t, d, r, s, pick(d, 1, 9))
		least, most := course(r, s, l, lowest, highest), course(r, s, l, highest, lowest)
		var can [][]int
		for i, x := range behind {
			products, e := candy.Products(r, x)
			if x.Begun != (e == api.OK) {
				t.Fatal("Products", r, x, e)
			}
			can = append(can, products)
			for n, all := range ranges(x) {
				if all.Low != least[i][n] || all.High != most[i][n] {
					t.Fatal("an end is not true of any course:", r, s, l, i, x, least[i], most[i])
				}
			}
		}
		for range 30 {
			any := func(r api.Range) int { return pick(d, r.Low, r.High) }
			for i, is := range course(r, s, l, any, any) {
				for n, all := range ranges(behind[i]) {
					if is[n] < all.Low || is[n] > all.High {
						t.Fatal("a truth is not in the state:", r, s, l, i, behind[i], is)
					}
				}
				if !behind[i].Begun {
					continue
				}
				p := productAt(r, is[0], is[2], is[3], behind[i].Seed)
				if !slices.Contains(can[i], p) {
					t.Fatal("a truth is not among the products:", r, s, l, i, behind[i], is, can[i], p)
				}
				seen[p]++
			}
		}
	}
	for n := -1; n < 3; n++ {
		if seen[n] < 1000 {
			t.Error("too few of the product", n, seen)
		}
	}
}

// subset reports whether all numbers of a list are in another one.
func subset(l, of []int) bool {
	return !slices.ContainsFunc(l, func(n int) bool { return !slices.Contains(of, n) })
}

// TestP11_9Smaller narrows the ranges of states: there are no other products.
func TestP11_9Smaller(t *testing.T) {
	d := dice()
	fewer := 0
	for range 20000 {
		r, x := anyRules(d), anyState(d)
		all, e := candy.Products(r, x)
		x.Dense, x.Start, x.Stirred = narrower(d, x.Dense), narrower(d, x.Start), narrower(d, x.Stirred)
		some, f := candy.Products(r, x)
		if !subset(some, all) || e != api.OK || f != api.OK {
			t.Fatal("smaller ranges have other products:", r, x, all, some, e, f)
		}
		if len(some) < len(all) {
			fewer++
		}
	}
	if fewer < 5000 {
		t.Error("too few with fewer products:", fewer)
	}
}

// TestP11_9SmallerActs narrows the ranges of acts, and of what is known of water: states have smaller ranges.
func TestP11_9SmallerActs(t *testing.T) {
	d := dice()
	made := 0
	for range 5000 {
		r, s := smallRules(d), smallSap(d)
		l, behind := anyBatch(t, d, r, s, pick(d, 1, 7))
		l, r.Base = slices.Clone(l), narrower(d, r.Base)
		for i := range l {
			l[i].Range = narrower(d, l[i].Range)
		}
		smaller, _, e := candy.Make(r, s, l)
		if e != api.OK {
			continue // what is cooled must not be hotter than before
		}
		made++
		for i, x := range smaller {
			wide := ranges(behind[i])
			for n, in := range ranges(x) {
				if in.Low < wide[n].Low || in.High > wide[n].High {
					t.Fatal("a range is not smaller:", r, s, l, i, x, behind[i])
				}
			}
			some, e := candy.Products(r, x)
			all, f := candy.Products(r, behind[i])
			if e != f || !subset(some, all) {
				t.Fatal("smaller ranges have other products:", r, s, l, i, some, all, e, f)
			}
		}
	}
	if made < 2000 {
		t.Error("too few can be made:", made)
	}
}

// TestP11_10Hotter compares batches that are cooked to lower and to higher temperatures.
func TestP11_10Hotter(t *testing.T) {
	d := dice()
	denser := 0
	for range 20000 {
		r := anyRules(d)
		top := r.Elevation[len(r.Elevation)-1].Y
		s := sap(pick(d, 0, 10000), pick(d, 1, 10000))
		a := anyRange(d, -5, min(2000, top+r.Base.Low))
		b := between(a.Low+pick(d, 0, 3), a.High+pick(d, 0, 50))
		b.Low = min(b.Low, b.High)
		cold, _, e := candy.Make(r, s, acts(cook(a.Low, a.High)))
		hot, _, f := candy.Make(r, s, acts(cook(b.Low, b.High)))
		if e != api.OK || f != api.OK && f != api.ErrNone && f != api.ErrArg {
			t.Fatal("Make", r, s, a, b, e, f)
		}
		if f != api.OK {
			continue // it is too hot
		}
		x, y := cold[0], hot[0]
		if y.Dense.Low < x.Dense.Low || y.Dense.High < x.Dense.High {
			t.Fatal("what is hotter is less dense:", r, s, a, b, x, y)
		}
		if x.Dense.Low < 1 {
			continue
		}
		more, e := candy.Yield(s, x)
		less, f := candy.Yield(s, y)
		if less.Low > more.Low || less.High > more.High || e != api.OK || f != api.OK {
			t.Fatal("what is hotter yields more:", r, s, a, b, more, less, e, f)
		}
		if less != more {
			denser++
		}
	}
	if denser < 1000 {
		t.Error("too few that yield less:", denser)
	}
}

// TestP11_10AllSugar shows that what crystallizes and what stays dissolved is all sugar, and that no more crystallizes where the saturation is greater.
func TestP11_10AllSugar(t *testing.T) {
	d := dice()
	for range 300 {
		s := sap(pick(d, 0, []int{9, 10000, 1000000000000}[d.IntN(3)]), pick(d, 0, []int{9, 10000, 1000000000000}[d.IntN(3)]))
		before := s.Sugar
		for _, y := range ascending(d, 30, 0, 9999) {
			told, e := candy.Crystals(holding(0, y, 1, y), s, just(0))
			holds := s.Water * y / (10000 - y)
			if e != api.OK || told.Low != told.High || told.Low+min(s.Sugar, holds) != s.Sugar {
				t.Fatal("it is not all sugar:", s, y, told, holds, e)
			}
			if told.Low > before {
				t.Fatal("more crystallizes:", s, y, told, before)
			}
			before = told.Low
		}
	}
}

// TestP11_11NoOtherOrders looks at all sets of orders that can be made by what Needs returns.
func TestP11_11NoOtherOrders(t *testing.T) {
	d := dice()
	for range 1000 {
		r := anyRules(d)
		l := anyOrders(d, r, pick(d, 0, 8))
		sugar, work := pick(d, 0, 3000), pick(d, 0, 300)
		best, pay, e := candy.Best(r, l, sugar, work)
		if e != api.OK || !slices.IsSorted(best) {
			t.Fatal("Best", r, l, sugar, work, best, e)
		}
		found := false
		for bits := range 1 << len(l) {
			some, grams, minutes, paid := someOf(bits), 0, 0, 0
			for _, i := range some {
				g, m, _ := candy.Needs(r, l[i])
				grams, minutes, paid = grams+g, minutes+m, paid+l[i].Price
			}
			if grams > sugar || minutes > work {
				continue
			}
			if paid > pay {
				t.Fatal("other orders pay more:", r, l, sugar, work, best, pay, some, paid)
			}
			found = found || paid == pay && slices.Equal(some, best)
		}
		if !found {
			t.Fatal("the orders can not be made, or pay something else:", r, l, sugar, work, best, pay)
		}
	}
}

// TestP11_11More has more sugar, more minutes, or one order more: Best pays no less.
func TestP11_11More(t *testing.T) {
	d := dice()
	better := [3]int{}
	for range 5000 {
		r := anyRules(d)
		l := anyOrders(d, r, pick(d, 0, 7))
		all, minutes := 0, 0
		for _, o := range l {
			g, m, _ := candy.Needs(r, o)
			all, minutes = all+g, minutes+m
		}
		sugar, work := pick(d, 0, all), pick(d, 0, minutes)
		_, pay, e := candy.Best(r, l, sugar, work)
		_, sweeter, f := candy.Best(r, l, sugar+pick(d, 1, all+1), work)
		_, longer, g := candy.Best(r, l, sugar, work+pick(d, 1, minutes+1))
		_, fuller, h := candy.Best(r, slices.Insert(slices.Clone(l), d.IntN(len(l)+1), anyOrders(d, r, 1)...), sugar, work)
		if e != api.OK || f != api.OK || g != api.OK || h != api.OK {
			t.Fatal("Best", r, l, sugar, work, e, f, g, h)
		}
		for i, now := range list(sweeter, longer, fuller) {
			if now < pay {
				t.Fatal("with more it pays less:", i, r, l, sugar, work, pay, now)
			}
			if now > pay {
				better[i]++
			}
		}
	}
	if slices.Min(better[:]) < 500 {
		t.Error("too few that pay more:", better)
	}
}
