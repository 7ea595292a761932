package vat_test

import (
	"fmt"
	"slices"
	"testing"

	"spile/api"
	"spile/vat"
)

// rows returns a table of so many rows.
func rows(n int) []api.Row {
	var l []api.Row
	for x := range n {
		l = append(l, api.Row{X: x, Y: x})
	}
	return l
}

// rulesCases are changes of the usual rules, and whether they are valid then.
func rulesCases() []struct {
	change func(l *api.VatRules)
	want   api.Errno
} {
	return []struct {
		change func(l *api.VatRules)
		want   api.Errno
	}{
		{func(l *api.VatRules) {}, api.OK},
		{func(l *api.VatRules) { *l = api.VatRules{} }, api.ErrArg},
		{func(l *api.VatRules) { l.Growth = nil }, api.ErrArg},
		{func(l *api.VatRules) { l.Growth = l.Growth[:1] }, api.ErrArg},
		{func(l *api.VatRules) { l.Growth = l.Growth[:2] }, api.OK},
		{func(l *api.VatRules) { l.Growth = rows(60) }, api.OK},
		{func(l *api.VatRules) { l.Growth = rows(61) }, api.ErrArg},
		{func(l *api.VatRules) { l.Growth[1].X = 0 }, api.ErrArg},
		{func(l *api.VatRules) { l.Growth[2].X = 99 }, api.ErrArg},
		{func(l *api.VatRules) { l.Growth[0].X, l.Growth[2].X = -api.MaxRow, api.MaxRow }, api.OK},
		{func(l *api.VatRules) { l.Growth[0].X = -api.MaxRow - 1 }, api.ErrArg},
		{func(l *api.VatRules) { l.Growth[2].X = api.MaxRow + 1 }, api.ErrArg},
		{func(l *api.VatRules) { l.Growth[0].Y = 0 }, api.OK},
		{func(l *api.VatRules) { l.Growth[0].Y = -1 }, api.ErrArg},
		{func(l *api.VatRules) { l.Growth[1].Y = -1 }, api.ErrArg},
		{func(l *api.VatRules) { l.Growth[2].Y = 1000000 }, api.OK},
		{func(l *api.VatRules) { l.Growth[2].Y = 1000001 }, api.ErrArg},
		{func(l *api.VatRules) { l.Growth[1].Y = 1000001 }, api.ErrArg},
		{func(l *api.VatRules) { l.Limit = 0 }, api.ErrArg},
		{func(l *api.VatRules) { l.Limit = -1 }, api.ErrArg},
		{func(l *api.VatRules) { l.Limit = 1 }, api.OK},
		{func(l *api.VatRules) { l.Limit = 1000000 }, api.OK},
		{func(l *api.VatRules) { l.Limit = 1000001 }, api.ErrArg},
		{func(l *api.VatRules) { l.Film = r(0, 0) }, api.OK},
		{func(l *api.VatRules) { l.Film = r(0, 1000000) }, api.OK},
		{func(l *api.VatRules) { l.Film = one(1000000) }, api.OK},
		{func(l *api.VatRules) { l.Film = r(0, 1000001) }, api.ErrArg},
		{func(l *api.VatRules) { l.Film = r(-1, 0) }, api.ErrArg},
		{func(l *api.VatRules) { l.Film = r(2, 1) }, api.ErrArg},
		{func(l *api.VatRules) { l.Film = r(low, high) }, api.ErrArg},
	}
}

func TestP6_1Rules(t *testing.T) {
	for i, c := range rulesCases() {
		l := rulesWith(c.change)
		for _, sizes := range [][]int{nil, {0}, {1000, 500}, times(21, 0)} {
			want := c.want
			if want == api.OK {
				want = sizesErr(sizes)
			}
			if cellar, e := vat.New(l, sizes); e != want || (cellar == nil) != (want != api.OK) {
				t.Error("New of the case", i, sizes, cellar, e, want)
			}
		}
	}
}

// sizesErr returns the error of sizes.
func sizesErr(sizes []int) api.Errno {
	if len(sizes) == 0 || len(sizes) > 20 {
		return api.ErrForm
	}
	if slices.Min(sizes) < 1 || slices.Max(sizes) > 1000000000 {
		return api.ErrRange
	}
	return api.OK
}

func TestP6_1New(t *testing.T) {
	for _, c := range []struct {
		sizes []int
		want  api.Errno
	}{
		{list(1), api.OK}, {list(1000000000), api.OK}, {list(1000000001), api.ErrRange}, {list(0), api.ErrRange}, {list(-1), api.ErrRange},
		{list(5, 0, 5), api.ErrRange}, {list(5, 5, high), api.ErrRange}, {list(low, 5, 5), api.ErrRange},
		{nil, api.ErrForm}, {list(), api.ErrForm}, {times(20, 7), api.OK}, {times(21, 7), api.ErrForm}, {times(21, 0), api.ErrForm}, {times(20, 0), api.ErrRange},
		{append(times(19, 1000000000), 1), api.OK}, {append(times(19, 1000000000), 0), api.ErrRange}, {times(1000, 7), api.ErrForm},
	} {
		cellar, e := vat.New(usual(), c.sizes)
		if e != c.want || (cellar == nil) != (c.want != api.OK) {
			t.Error("New", c.sizes, cellar, e)
		}
		if e != api.OK {
			continue
		}
		for tank, size := range c.sizes {
			sameTank(t, cellar, tank, api.Tank{})
			sameErr(t, "Pour of too much", cellar.Pour(tank, s(size+1, 0), one(0)), api.ErrFull)
			sameErr(t, "Pour of just enough", cellar.Pour(tank, s(size, 0), one(0)), api.OK)
			sameTank(t, cellar, tank, api.Tank{Sap: s(size, 0), Lots: 1})
		}
		_, e = cellar.Tell(len(c.sizes))
		sameErr(t, "Tell of one tank more", e, api.ErrNone)
	}
}

func TestP6_1NilCellar(t *testing.T) {
	var c *vat.Cellar
	for _, n := range []int{low, -1, 0, 1, 20, high} {
		sameErr(t, "Pour", c.Pour(n, s(n, n), r(n, -n)), api.ErrNil)
		sameDraw(t, c, n, n, api.Drawn{}, api.ErrNil)
		sameErr(t, "Move", c.Move(n, n, n), api.ErrNil)
		sap, e := c.Dump(n)
		same(t, "Dump", sap, e, api.Sap{}, api.ErrNil)
		sameErr(t, "Wash", c.Wash(n), api.ErrNil)
		sameErr(t, "Stay", c.Stay(n, r(n, -n)), api.ErrNil)
		told, e := c.Tell(n)
		same(t, "Tell", told, e, api.Tank{}, api.ErrNil)
		book, e := c.Book()
		same(t, "Book", book, e, api.VatBook{}, api.ErrNil)
	}
}

// TestP6_1NoTank shows that a tank that is not there has the first error, as the first one of two and as the second one.
func TestP6_1NoTank(t *testing.T) {
	c := usualCellar(t)
	pour(t, c, 0, s(90, 10), one(5))
	before := account(c, 2)
	for _, n := range []int{low, -1, 2, 20, high} {
		for _, x := range []int{low, -1, 0, 1, 100, 101, high} {
			sameErr(t, "Pour", c.Pour(n, s(x, x), r(x, 1)), api.ErrNone)
			sameDraw(t, c, n, x, api.Drawn{}, api.ErrNone)
			for _, other := range []int{0, 1, n, -1, 2} {
				sameErr(t, "Move from", c.Move(n, other, x), api.ErrNone)
				sameErr(t, "Move to", c.Move(other, n, x), api.ErrNone)
			}
		}
		sap, e := c.Dump(n)
		same(t, "Dump", sap, e, api.Sap{}, api.ErrNone)
		sameErr(t, "Wash", c.Wash(n), api.ErrNone)
		told, e := c.Tell(n)
		same(t, "Tell", told, e, api.Tank{}, api.ErrNone)
	}
	if after := account(c, 2); after != before {
		t.Error("what is refused has changed something:", before, after)
	}
}

func TestP6_2Pour(t *testing.T) {
	for _, c := range []struct {
		sap  api.Sap
		load api.Range
		want api.Errno
	}{
		{s(90, 10), r(5, 9), api.OK}, {s(100, 0), one(0), api.OK}, {s(0, 100), one(0), api.OK}, {s(1, 0), one(0), api.OK}, {s(0, 1), one(0), api.OK},
		{s(0, 0), one(0), api.ErrArg}, {s(-1, 2), one(0), api.ErrArg}, {s(2, -1), one(0), api.ErrArg}, {s(low, 1), one(0), api.ErrArg}, {s(1, high), one(0), api.ErrArg},
		{s(ton+1, 0), one(0), api.ErrArg}, {s(0, ton+1), one(0), api.ErrArg}, {s(ton, ton), one(0), api.ErrFull}, {s(high, high), one(0), api.ErrArg},
		{s(1, 1), r(0, 1000000), api.OK}, {s(1, 1), one(1000000), api.OK}, {s(1, 1), r(0, 1000001), api.ErrArg}, {s(1, 1), r(-1, 0), api.ErrArg},
		{s(1, 1), r(6, 5), api.ErrArg}, {s(1, 1), r(low, high), api.ErrArg}, {s(500, 500), one(7), api.OK}, {s(501, 500), one(7), api.ErrFull},
		{s(1001, 0), one(1000001), api.ErrArg}, {s(0, 1001), one(7), api.ErrFull},
	} {
		cellar := usualCellar(t)
		what := fmt.Sprint("Pour of ", c.sap, c.load)
		sameErr(t, what, cellar.Pour(0, c.sap, c.load), c.want)
		if c.want != api.OK {
			sameTank(t, cellar, 0, api.Tank{})
			sameBook(t, cellar, s(0, 0), s(0, 0), s(0, 0), s(0, 0))
			continue
		}
		told, e := cellar.Tell(0)
		same(t, what, api.Tank{Sap: told.Sap, Lots: told.Lots, Load: told.Load}, e, api.Tank{Sap: c.sap, Lots: 1, Load: c.load}, api.OK)
		sameTank(t, cellar, 1, api.Tank{})
		sameBook(t, cellar, c.sap, s(0, 0), s(0, 0), c.sap)
	}
}

func TestP6_2Film(t *testing.T) {
	for _, c := range []struct{ load, want api.Range }{
		{r(0, 0), r(10, 20)}, {r(0, 15), r(10, 20)}, {r(10, 20), r(10, 20)}, {r(15, 15), r(15, 20)}, {r(5, 30), r(10, 30)}, {r(20, 30), r(20, 30)}, {r(15, 30), r(15, 30)}, {r(9, 21), r(10, 21)}, {r(11, 19), r(11, 20)},
	} {
		cellar := usualCellar(t)
		stay(t, cellar, 10, one(0))
		pour(t, cellar, 0, s(1, 0), c.load)
		sameTank(t, cellar, 0, api.Tank{Sap: s(1, 0), Lots: 1, Load: c.want, Film: r(10, 20)})
	}
}

func TestP6_2Full(t *testing.T) {
	c := newCellar(t, usual(), 100, 1000)
	pour(t, c, 0, s(60, 10), one(0))
	sameErr(t, "Pour of one gram too much", c.Pour(0, s(30, 1), one(0)), api.ErrFull)
	sameErr(t, "Pour of what fills the tank", c.Pour(0, s(30, 0), one(0)), api.OK)
	sameErr(t, "Pour into a full tank", c.Pour(0, s(1, 0), one(0)), api.ErrFull)
	sameErr(t, "Pour of nothing into a full tank", c.Pour(0, s(0, 0), one(0)), api.ErrArg)
	for range 40 {
		sameErr(t, "Pour of a lot", c.Pour(1, s(1, 1), one(0)), api.OK)
	}
	sameErr(t, "Pour of one lot too many", c.Pour(1, s(1, 1), one(0)), api.ErrFull)
	sameErr(t, "Pour of a bad lot too many", c.Pour(1, s(1, 1), one(-1)), api.ErrArg)
	sameTank(t, c, 1, api.Tank{Sap: s(40, 40), Lots: 40})
	sameDraw(t, c, 1, 1, drawn(s(1, 0), one(0), one(0)), api.OK)
	sameErr(t, "Pour of a lot beside a part", c.Pour(1, s(1, 1), one(0)), api.ErrFull)
	sameDraw(t, c, 1, 1, drawn(s(0, 1), one(0), one(0)), api.OK)
	sameErr(t, "Pour of a lot for one that has gone", c.Pour(1, s(1, 1), one(0)), api.OK)
	sameTank(t, c, 1, api.Tank{Sap: s(40, 40), Lots: 40})
}

// TestP6_2Over pours just as much as can be poured in all, although most of it has gone long ago.
func TestP6_2Over(t *testing.T) {
	for _, sugar := range []bool{false, true} {
		gram := func(n int) api.Sap {
			if sugar {
				return s(0, n)
			}
			return s(n, 0)
		}
		c := newCellar(t, usual(), full, full)
		for i := range 999 {
			pour(t, c, 0, gram(full), one(0))
			if i%2 == 0 {
				sameDraw(t, c, 0, full, drawn(gram(full), one(0), one(0)), api.OK)
			} else if a, e := c.Dump(0); a != gram(full) || e != api.OK {
				t.Fatal("Dump", a, e)
			}
		}
		pour(t, c, 0, gram(full-1), one(0))
		before := account(c, 2)
		sameErr(t, "Pour of too much", c.Pour(1, gram(2), one(0)), api.ErrOver)
		sameErr(t, "Pour of too much into a full tank", c.Pour(0, gram(2), one(0)), api.ErrFull)
		sameErr(t, "Pour of too much with a bad load", c.Pour(1, gram(2), one(-1)), api.ErrArg)
		if after := account(c, 2); after != before {
			t.Error("what is refused has changed something:", before, after)
		}
		sameErr(t, "Pour of just enough", c.Pour(1, gram(1), one(0)), api.OK)
		sameErr(t, "Pour of one gram more", c.Pour(1, gram(1), one(0)), api.ErrOver)
		sameErr(t, "Move", c.Move(0, 1, full-1), api.OK)
		sameBook(t, c, gram(ton), gram(500*full), gram(499*full), gram(full))
		other := s(gram(1).Sugar, gram(1).Water)
		sameErr(t, "Pour of the other one", c.Pour(0, other, one(0)), api.OK)
	}
}

func TestP6_3Draw(t *testing.T) {
	// Three lots: 200 to 300 germs and 12 hours old, 112 to 116 and 5 hours old, and 10 to 22 that just came.
	three := func() *vat.Cellar {
		c := newCellar(t, rulesWith(func(l *api.VatRules) { l.Growth, l.Film = table(0, 10, 100, 10), one(0) }), 1000)
		pour(t, c, 0, s(90, 10), r(80, 180))
		stay(t, c, 7, one(50))
		pour(t, c, 0, s(37, 4), r(62, 66))
		stay(t, c, 5, one(50))
		pour(t, c, 0, s(0, 50), r(10, 22))
		return c
	}
	for _, c := range []struct {
		mass int
		want api.Drawn
		left api.Tank
		e    api.Errno
	}{
		{1, drawn(s(1, 0), r(200, 300), one(12)), api.Tank{Sap: s(126, 64), Lots: 3, Load: r(10, 300), Age: r(0, 12)}, api.OK},
		{10, drawn(s(9, 1), r(200, 300), one(12)), api.Tank{Sap: s(118, 63), Lots: 3, Load: r(10, 300), Age: r(0, 12)}, api.OK},
		{99, drawn(s(90, 9), r(200, 300), one(12)), api.Tank{Sap: s(37, 55), Lots: 3, Load: r(10, 300), Age: r(0, 12)}, api.OK},
		{100, drawn(s(90, 10), r(200, 300), one(12)), api.Tank{Sap: s(37, 54), Lots: 2, Load: r(10, 116), Age: r(0, 5)}, api.OK},
		{101, drawn(s(91, 10), r(112, 300), r(5, 12)), api.Tank{Sap: s(36, 54), Lots: 2, Load: r(10, 116), Age: r(0, 5)}, api.OK},
		{110, drawn(s(100, 10), r(112, 300), r(5, 12)), api.Tank{Sap: s(27, 54), Lots: 2, Load: r(10, 116), Age: r(0, 5)}, api.OK},
		{111, drawn(s(100, 11), r(112, 300), r(5, 12)), api.Tank{Sap: s(27, 53), Lots: 2, Load: r(10, 116), Age: r(0, 5)}, api.OK},
		{141, drawn(s(127, 14), r(112, 300), r(5, 12)), api.Tank{Sap: s(0, 50), Lots: 1, Load: r(10, 22), Age: one(0)}, api.OK},
		{142, drawn(s(127, 15), r(10, 300), r(0, 12)), api.Tank{Sap: s(0, 49), Lots: 1, Load: r(10, 22), Age: one(0)}, api.OK},
		{191, drawn(s(127, 64), r(10, 300), r(0, 12)), api.Tank{}, api.OK},
		{192, api.Drawn{}, api.Tank{Sap: s(127, 64), Lots: 3, Load: r(10, 300), Age: r(0, 12)}, api.ErrRange},
		{0, api.Drawn{}, api.Tank{Sap: s(127, 64), Lots: 3, Load: r(10, 300), Age: r(0, 12)}, api.ErrRange},
		{-1, api.Drawn{}, api.Tank{Sap: s(127, 64), Lots: 3, Load: r(10, 300), Age: r(0, 12)}, api.ErrRange},
		{low, api.Drawn{}, api.Tank{Sap: s(127, 64), Lots: 3, Load: r(10, 300), Age: r(0, 12)}, api.ErrRange},
		{high, api.Drawn{}, api.Tank{Sap: s(127, 64), Lots: 3, Load: r(10, 300), Age: r(0, 12)}, api.ErrRange},
	} {
		cellar := three()
		sameDraw(t, cellar, 0, c.mass, c.want, c.e)
		sameTank(t, cellar, 0, c.left)
		sameBook(t, cellar, s(127, 64), c.want.Sap, s(0, 0), c.left.Sap)
	}
	for _, m := range []int{low, -1, 0, 1, high} {
		sameDraw(t, usualCellar(t), 0, m, api.Drawn{}, api.ErrRange)
	}
}

// TestP6_3Grams draws a lot gram by gram: each gram is drawn from what the one before it left.
func TestP6_3Grams(t *testing.T) {
	for _, sap := range []api.Sap{s(7, 3), s(3, 7), s(5, 0), s(0, 5), s(1, 1), s(97, 20)} {
		c := usualCellar(t)
		pour(t, c, 0, sap, one(0))
		for left := sap; mass(left) > 0; {
			sugar := left.Sugar / mass(left)
			sameDraw(t, c, 0, 1, drawn(s(1-sugar, sugar), one(0), one(0)), api.OK)
			left = s(left.Water-1+sugar, left.Sugar-sugar)
			if told, e := c.Tell(0); told.Sap != left || e != api.OK {
				t.Fatal("Tell", told, left, e)
			}
		}
		sameTank(t, c, 0, api.Tank{})
	}
}

func TestP6_3GreatLots(t *testing.T) {
	c := newCellar(t, usual(), full)
	pour(t, c, 0, s(333333334, 666666666), one(0))
	sameDraw(t, c, 0, 999999998, drawn(s(333333334, 666666664), one(0), one(0)), api.OK)
	sameDraw(t, c, 0, 2, drawn(s(0, 2), one(0), one(0)), api.OK)
}

func TestP6_4Move(t *testing.T) {
	c := newCellar(t, rulesWith(func(l *api.VatRules) { l.Film = r(1, 3) }), 1000, 500, 200)
	pour(t, c, 0, s(90, 10), r(0, 50))
	stay(t, c, 2, one(0))
	pour(t, c, 0, s(40, 10), r(0, 0))
	stay(t, c, 2, one(0))
	sameErr(t, "Wash", c.Wash(2), api.OK)
	pour(t, c, 0, s(0, 30), r(3, 13))
	// In the tank 0 are loads of 40 to 90, of 22 to 26, and of 4 to 13; its film, and that of the tank 1, is 4 to 12.
	sameTank(t, c, 0, api.Tank{Sap: s(130, 50), Lots: 3, Load: r(4, 90), Age: r(0, 4), Film: r(4, 12)})
	sameErr(t, "Move of a part", c.Move(0, 2, 10), api.OK)
	sameTank(t, c, 2, api.Tank{Sap: s(9, 1), Lots: 1, Load: r(40, 90), Age: one(4)})
	sameTank(t, c, 0, api.Tank{Sap: s(121, 49), Lots: 3, Load: r(4, 90), Age: r(0, 4), Film: r(4, 12)})
	sameErr(t, "Move of two lots and a part", c.Move(0, 2, 145), api.OK)
	sameTank(t, c, 0, api.Tank{Sap: s(0, 25), Lots: 1, Load: r(4, 13), Age: one(0), Film: r(4, 12)})
	sameTank(t, c, 2, api.Tank{Sap: s(130, 25), Lots: 4, Load: r(4, 90), Age: r(0, 4)})
	sameBook(t, c, s(130, 50), s(0, 0), s(0, 0), s(130, 50))
	sameErr(t, "Move of all", c.Move(2, 1, 155), api.OK)
	sameTank(t, c, 2, api.Tank{})
	sameTank(t, c, 1, api.Tank{Sap: s(130, 25), Lots: 4, Load: r(4, 90), Age: r(0, 4), Film: r(4, 12)})
	sameBook(t, c, s(130, 50), s(0, 0), s(0, 0), s(130, 50))
	sameLots(t, c, 1, drawn(s(9, 1), r(40, 90), one(4)), drawn(s(81, 9), r(40, 90), one(4)), drawn(s(40, 10), r(22, 26), one(2)), drawn(s(0, 5), r(4, 13), one(0)))
}

// TestP6_4Film moves lots into a tank whose film is greater than some of their ends.
func TestP6_4Film(t *testing.T) {
	c := newCellar(t, rulesWith(func(l *api.VatRules) { l.Growth, l.Film = table(0, 0, 100, 0), r(1, 3) }), 1000, 1000)
	stay(t, c, 10, one(0))
	sameErr(t, "Wash", c.Wash(0), api.OK)
	for _, load := range set(r(0, 5), r(0, 30), r(0, 31), r(10, 20), r(11, 12), r(12, 40)) {
		pour(t, c, 0, s(5, 5), load)
	}
	sameErr(t, "Move", c.Move(0, 1, 57), api.OK)
	sameLots(t, c, 0, drawn(s(1, 2), r(12, 40), one(0)))
	want := []api.Drawn{drawn(s(4, 3), r(12, 40), one(0))}
	for _, load := range set(r(11, 30), r(10, 30), r(10, 31), r(10, 30), r(10, 30)) {
		want = slices.Insert(want, 0, drawn(s(5, 5), load, one(0)))
	}
	sameLots(t, c, 1, want...)
}

// TestP6_4Order moves lots in between others, by their time.
func TestP6_4Order(t *testing.T) {
	c := newCellar(t, rulesWith(func(l *api.VatRules) { l.Growth, l.Film = table(0, 0, 100, 0), one(0) }), 1000, 1000, 1000)
	// The grams of sugar number the lots, and the first digit of each number is the time.
	for hour := range 4 {
		pour(t, c, 0, s(0, 10*hour+11), one(hour))
		pour(t, c, 1, s(0, 10*hour+12), one(hour))
		pour(t, c, 0, s(0, 10*hour+13), one(hour))
		stay(t, c, 1, one(0))
	}
	sameErr(t, "Move of the first ones", c.Move(1, 0, 12+22), api.OK)
	sameErr(t, "Move of all others", c.Move(0, 2, 11+13+12+21+23+22+31+33+41+43), api.OK)
	sameErr(t, "Move of a part of one", c.Move(1, 2, 5), api.OK)
	sameErr(t, "Move of the rest of it, and of one more", c.Move(1, 2, 27+42), api.OK)
	var want []api.Drawn
	for _, n := range list(11, 13, 12, 21, 23, 22, 31, 33, 5, 27, 41, 43, 42) {
		hour := n/10 - 1
		if n == 5 || n == 27 {
			hour = 2
		}
		want = append(want, drawn(s(0, n), one(hour), one(4-hour)))
	}
	sameLots(t, c, 2, want...)
}

// TestP6_4Back moves lots there and back: no gram is lost, and no lot is older or younger then.
func TestP6_4Back(t *testing.T) {
	c := newCellar(t, rulesWith(func(l *api.VatRules) { l.Growth, l.Film = table(0, 0, 100, 0), one(0) }), 100, 100)
	var want []api.Drawn
	for hour := range 5 {
		pour(t, c, hour%2, s(hour, 10-hour), one(hour))
		want = append(want, drawn(s(hour, 10-hour), one(hour), one(5-hour)))
		stay(t, c, 1, one(0))
	}
	sameErr(t, "Move", c.Move(1, 0, 20), api.OK)
	sameErr(t, "Move of all", c.Move(0, 1, 50), api.OK)
	sameErr(t, "Move back", c.Move(1, 0, 30), api.OK)
	sameErr(t, "Move of the rest", c.Move(1, 0, 20), api.OK)
	sameBook(t, c, s(10, 40), s(0, 0), s(0, 0), s(10, 40))
	sameLots(t, c, 0, want...)
}

func TestP6_4Errors(t *testing.T) {
	c := newCellar(t, usual(), 100, 50)
	pour(t, c, 0, s(50, 10), one(1))
	pour(t, c, 1, s(20, 10), one(2))
	for _, x := range []struct {
		from, to, mass int
		want           api.Errno
	}{
		{0, 0, 1, api.ErrArg}, {1, 1, 0, api.ErrArg}, {0, 0, 61, api.ErrArg}, {0, 0, low, api.ErrArg}, {2, 2, 1, api.ErrNone}, {0, 2, 61, api.ErrNone}, {-1, 0, 0, api.ErrNone},
		{0, 1, 0, api.ErrRange}, {0, 1, -1, api.ErrRange}, {0, 1, 61, api.ErrRange}, {0, 1, high, api.ErrRange}, {0, 1, low, api.ErrRange}, {1, 0, 31, api.ErrRange},
		{0, 1, 60, api.ErrFull}, {0, 1, 21, api.ErrFull},
	} {
		before := account(c, 2)
		sameErr(t, fmt.Sprint("Move ", x), c.Move(x.from, x.to, x.mass), x.want)
		if after := account(c, 2); after != before {
			t.Error("what is refused has changed something:", x, before, after)
		}
	}
	sameErr(t, "Move of what fills the tank", c.Move(0, 1, 20), api.OK)
	sameErr(t, "Move into a full tank", c.Move(0, 1, 1), api.ErrFull)
	sameErr(t, "Move back", c.Move(1, 0, 50), api.OK)
	sameDraw(t, c, 1, 1, api.Drawn{}, api.ErrRange)
	sameErr(t, "Move out of an empty tank", c.Move(1, 0, 1), api.ErrRange)
}

// TestP6_4ManyLots moves into a tank that is full by lots, or nearly so, although grams have room.
func TestP6_4ManyLots(t *testing.T) {
	for _, c := range []struct {
		there, mass int
		want        api.Errno
	}{
		{40, 1, api.ErrFull}, {40, 25, api.ErrFull}, {39, 1, api.OK}, {39, 10, api.OK}, {39, 11, api.ErrFull}, {38, 11, api.OK}, {38, 20, api.OK}, {38, 21, api.ErrFull}, {37, 21, api.OK}, {37, 25, api.OK}, {0, 25, api.OK},
	} {
		cellar := newCellar(t, usual(), 1000, 1000)
		for range c.there {
			pour(t, cellar, 1, s(1, 0), one(0))
		}
		pour(t, cellar, 0, s(10, 0), one(0))
		pour(t, cellar, 0, s(0, 10), one(0))
		pour(t, cellar, 0, s(5, 0), one(0))
		before := account(cellar, 2)
		sameErr(t, fmt.Sprint("Move ", c), cellar.Move(0, 1, c.mass), c.want)
		if after := account(cellar, 2); (after == before) != (c.want != api.OK) {
			t.Error("Move", c, before, after)
		}
	}
}

func TestP6_5DumpAndWash(t *testing.T) {
	c := usualCellar(t)
	sap, e := c.Dump(0)
	same(t, "Dump of an empty tank", sap, e, api.Sap{}, api.ErrState)
	sameErr(t, "Wash of a clean tank", c.Wash(0), api.OK)
	stay(t, c, 10, one(0))
	pour(t, c, 0, s(90, 10), one(0))
	pour(t, c, 0, s(37, 3), one(50))
	pour(t, c, 1, s(7, 3), one(50))
	sameErr(t, "Wash of a tank with sap", c.Wash(0), api.ErrState)
	sameTank(t, c, 0, api.Tank{Sap: s(127, 13), Lots: 2, Load: r(10, 50), Film: r(10, 20)})
	sap, e = c.Dump(0)
	same(t, "Dump", sap, e, s(127, 13), api.OK)
	sameTank(t, c, 0, api.Tank{Film: r(10, 20)})
	sameTank(t, c, 1, api.Tank{Sap: s(7, 3), Lots: 1, Load: one(50), Film: r(10, 20)})
	sameBook(t, c, s(134, 16), s(0, 0), s(127, 13), s(7, 3))
	sap, e = c.Dump(0)
	same(t, "Dump again", sap, e, api.Sap{}, api.ErrState)
	sameErr(t, "Wash", c.Wash(0), api.OK)
	sameTank(t, c, 0, api.Tank{})
	sameTank(t, c, 1, api.Tank{Sap: s(7, 3), Lots: 1, Load: one(50), Film: r(10, 20)})
	sameErr(t, "Wash of the other one", c.Wash(1), api.ErrState)
	stay(t, c, 3, one(0))
	sameTank(t, c, 0, api.Tank{Film: r(3, 6)})
	pour(t, c, 0, s(1, 0), one(0))
	sameTank(t, c, 0, api.Tank{Sap: s(1, 0), Lots: 1, Load: r(3, 6), Film: r(3, 6)})
	sameDraw(t, c, 0, 1, drawn(s(1, 0), r(3, 6), one(0)), api.OK)
	sameErr(t, "Wash of a tank that was drawn empty", c.Wash(0), api.OK)
	sameErr(t, "Move", c.Move(1, 0, 10), api.OK)
	sameErr(t, "Wash of a tank from which all was moved", c.Wash(1), api.OK)
	sap, e = c.Dump(0)
	same(t, "Dump of what was moved", sap, e, s(7, 3), api.OK)
	sameBook(t, c, s(135, 16), s(1, 0), s(134, 16), s(0, 0))
}
