package vat_test

import (
	"fmt"
	"math/rand/v2"
	"testing"

	"spile/api"
	"spile/span"
	"spile/vat"
)

// TestP6_6Stay also shows which temperatures the table has, its ends among them.
func TestP6_6Stay(t *testing.T) {
	for _, c := range []struct {
		hours             int
		temperature       api.Range
		load, film, after api.Range
		e                 api.Errno
	}{
		{10, r(40, 60), r(360, 540), r(10, 20), r(360, 540), api.OK},
		{0, r(40, 60), r(100, 200), r(0, 0), r(100, 200), api.OK},
		{1, one(0), r(110, 210), r(1, 2), r(110, 210), api.OK},
		{1, one(200), r(400, 500), r(1, 2), r(400, 500), api.OK},
		{1, r(0, 200), r(110, 500), r(1, 2), r(110, 500), api.OK},
		{3, r(99, 101), r(100+3*49, 200+3*53), r(3, 6), r(247, 359), api.OK},
		{3, one(1), r(130, 233), r(3, 6), r(130, 233), api.OK},
		{1, one(-1), r(100, 200), r(0, 0), r(100, 200), api.ErrRange},
		{1, one(201), r(100, 200), r(0, 0), r(100, 200), api.ErrRange},
		{1, r(-1, 10), r(100, 200), r(0, 0), r(100, 200), api.ErrRange},
		{1, r(10, 201), r(100, 200), r(0, 0), r(100, 200), api.ErrRange},
		{1, r(11, 10), r(100, 200), r(0, 0), r(100, 200), api.ErrArg},
		{0, r(11, 10), r(100, 200), r(0, 0), r(100, 200), api.ErrArg},
		{0, one(201), r(100, 200), r(0, 0), r(100, 200), api.ErrRange},
		{-1, r(11, 10), r(100, 200), r(0, 0), r(100, 200), api.ErrRange},
		{1000001, r(11, 10), r(100, 200), r(0, 0), r(100, 200), api.ErrRange},
		{1000000, r(11, 10), r(100, 200), r(0, 0), r(100, 200), api.ErrArg},
		{1, r(-api.MaxSpan-1, 10), r(100, 200), r(0, 0), r(100, 200), api.ErrArg},
		{1, r(low, high), r(100, 200), r(0, 0), r(100, 200), api.ErrArg},
		{high, one(0), r(100, 200), r(0, 0), r(100, 200), api.ErrRange},
		{low, one(0), r(100, 200), r(0, 0), r(100, 200), api.ErrRange},
	} {
		cellar := usualCellar(t)
		pour(t, cellar, 0, s(90, 10), r(100, 200))
		sameErr(t, fmt.Sprint("Stay ", c.hours, c.temperature), cellar.Stay(c.hours, c.temperature), c.e)
		age := one(c.hours)
		if c.e != api.OK {
			age = one(0)
		}
		sameTank(t, cellar, 0, api.Tank{Sap: s(90, 10), Lots: 1, Load: c.load, Age: age, Film: c.film})
		sameTank(t, cellar, 1, api.Tank{Film: c.film})
		sameDraw(t, cellar, 0, 100, drawn(s(90, 10), c.after, age), api.OK)
	}
}

func TestP6_6Time(t *testing.T) {
	c := usualCellar(t)
	pour(t, c, 0, s(1, 0), one(0))
	stay(t, c, 1000000, one(0))
	pour(t, c, 0, s(1, 0), one(0))
	sameTank(t, c, 0, api.Tank{Sap: s(2, 0), Lots: 2, Load: one(1000000), Age: r(0, 1000000), Film: one(1000000), Possibly: 2, Surely: 2})
	stay(t, c, 0, one(200))
	sameErr(t, "an hour more", c.Stay(1, one(0)), api.ErrRange)
	sameErr(t, "an hour more, at no temperature", c.Stay(1, r(1, 0)), api.ErrRange)
	sameErr(t, "no hour, at no temperature", c.Stay(0, r(1, 0)), api.ErrArg)
	c = usualCellar(t)
	stay(t, c, 1, one(0))
	sameErr(t, "all hours, and one", c.Stay(1000000, one(0)), api.ErrRange)
	sameErr(t, "all hours but one", c.Stay(999999, one(0)), api.OK)
	sameErr(t, "one hour more", c.Stay(1, one(0)), api.ErrRange)
}

// TestP6_6Refused shows that hours that are refused do not go by.
func TestP6_6Refused(t *testing.T) {
	c := usualCellar(t)
	pour(t, c, 0, s(1, 0), one(0))
	for range 3 {
		sameErr(t, "Stay too hot", c.Stay(900000, one(201)), api.ErrRange)
		sameErr(t, "Stay at nothing", c.Stay(900000, r(1, 0)), api.ErrArg)
	}
	sameTank(t, c, 0, api.Tank{Sap: s(1, 0), Lots: 1})
	stay(t, c, 1000000, one(0))
}

// TestP6_6Most lets loads and films grow until they grow no more.
func TestP6_6Most(t *testing.T) {
	fast := rulesWith(func(l *api.VatRules) { l.Growth, l.Film = table(0, 0, 100, 1000000), r(0, 1000000) })
	c := newCellar(t, fast, 10)
	pour(t, c, 0, s(1, 0), r(7, 8))
	stay(t, c, 1, r(0, 100))
	sameTank(t, c, 0, api.Tank{Sap: s(1, 0), Lots: 1, Load: r(7, 1000000), Age: one(1), Film: r(0, 1000000), Possibly: 1})
	stay(t, c, 999998, r(0, 100))
	sameTank(t, c, 0, api.Tank{Sap: s(1, 0), Lots: 1, Load: r(7, 1000000), Age: one(999999), Film: r(0, 1000000), Possibly: 1})
	stay(t, c, 1, one(100))
	sameTank(t, c, 0, api.Tank{Sap: s(1, 0), Lots: 1, Load: one(1000000), Age: one(1000000), Film: r(0, 1000000), Possibly: 1, Surely: 1})
	slow := rulesWith(func(l *api.VatRules) { l.Growth, l.Film = table(0, 99, 100, 100), r(99, 100) })
	c = newCellar(t, slow, 10)
	pour(t, c, 0, s(1, 0), r(0, 0))
	stay(t, c, 9999, r(0, 100))
	sameTank(t, c, 0, api.Tank{Sap: s(1, 0), Lots: 1, Load: r(989901, 999900), Age: one(9999), Film: r(989901, 999900), Possibly: 1, Surely: 1})
	stay(t, c, 2, r(0, 100))
	sameTank(t, c, 0, api.Tank{Sap: s(1, 0), Lots: 1, Load: r(990099, 1000000), Age: one(10001), Film: r(990099, 1000000), Possibly: 1, Surely: 1})
	sameErr(t, "Pour into a full film", c.Pour(0, s(1, 0), one(1000000)), api.OK)
	sameTank(t, c, 0, api.Tank{Sap: s(2, 0), Lots: 2, Load: r(990099, 1000000), Age: r(0, 10001), Film: r(990099, 1000000), Possibly: 2, Surely: 2})
}

// TestP6_7Tell has lots of which High or Low just reaches Limit, and just does not.
func TestP6_7Tell(t *testing.T) {
	for _, c := range []struct {
		loads            []api.Range
		load             api.Range
		possibly, surely int
	}{
		{nil, r(0, 0), 0, 0},
		{set(r(0, 999)), r(0, 999), 0, 0},
		{set(r(0, 1000)), r(0, 1000), 1, 0},
		{set(r(999, 1000)), r(999, 1000), 1, 0},
		{set(one(999)), one(999), 0, 0},
		{set(one(1000)), one(1000), 1, 1},
		{set(r(1000, 1001)), r(1000, 1001), 1, 1},
		{set(r(1001, 2000), r(5, 999), r(6, 1000), one(1000), r(7, 7)), r(5, 2000), 3, 2},
		{set(r(50, 60), r(20, 100), r(30, 90)), r(20, 100), 0, 0},
	} {
		cellar := usualCellar(t)
		want := api.Tank{Lots: len(c.loads), Load: c.load, Possibly: c.possibly, Surely: c.surely}
		for i, load := range c.loads {
			pour(t, cellar, 1, s(10*i+1, i), load)
			want.Sap = add(want.Sap, s(10*i+1, i))
		}
		sameTank(t, cellar, 1, want)
		sameTank(t, cellar, 0, api.Tank{})
		sameTank(t, cellar, 1, want)
		sameBook(t, cellar, want.Sap, s(0, 0), s(0, 0), want.Sap)
	}
}

// TestP6_7Ages tells the ages of lots that were poured, and drawn, at different times.
func TestP6_7Ages(t *testing.T) {
	c := newCellar(t, rulesWith(func(l *api.VatRules) { l.Growth, l.Film = table(0, 1, 1, 1), one(0) }), 100)
	sameTank(t, c, 0, api.Tank{})
	stay(t, c, 5, one(0))
	sameTank(t, c, 0, api.Tank{})
	for _, x := range []struct {
		hours, mass, draw int
		want              api.Tank
	}{
		{3, 10, 0, api.Tank{Sap: s(10, 0), Lots: 1}},
		{4, 10, 0, api.Tank{Sap: s(20, 0), Lots: 2, Load: r(0, 4), Age: r(0, 4)}},
		{2, 0, 0, api.Tank{Sap: s(20, 0), Lots: 2, Load: r(2, 6), Age: r(2, 6)}},
		{1, 10, 9, api.Tank{Sap: s(21, 0), Lots: 3, Load: r(0, 7), Age: r(0, 7)}},
		{0, 0, 1, api.Tank{Sap: s(20, 0), Lots: 2, Load: r(0, 3), Age: r(0, 3)}},
		{6, 0, 10, api.Tank{Sap: s(10, 0), Lots: 1, Load: one(6), Age: one(6)}},
		{1, 0, 10, api.Tank{}},
	} {
		stay(t, c, x.hours, one(0))
		if x.mass > 0 {
			pour(t, c, 0, s(x.mass, 0), one(0))
		}
		if x.draw > 0 {
			if _, e := c.Draw(0, x.draw); e != api.OK {
				t.Fatal("Draw", x, e)
			}
		}
		sameTank(t, c, 0, x.want)
	}
}

// TestP6_7GreatBook holds as much as all tanks can hold.
func TestP6_7GreatBook(t *testing.T) {
	c := newCellar(t, usual(), times(20, full)...)
	for tank := range 20 {
		for i := range 40 {
			pour(t, c, tank, s(full/80+i%2, full/80-i%2), one(0))
		}
		sameTank(t, c, tank, api.Tank{Sap: s(full/2+20, full/2-20), Lots: 40})
	}
	sameBook(t, c, s(10*full+400, 10*full-400), s(0, 0), s(0, 0), s(10*full+400, 10*full-400))
	sameDraw(t, c, 19, full, drawn(s(full/2+20, full/2-20), one(0), one(0)), api.OK)
	a, e := c.Dump(0)
	same(t, "Dump", a, e, s(full/2+20, full/2-20), api.OK)
	sameErr(t, "Move", c.Move(1, 0, full), api.OK)
	sameBook(t, c, s(10*full+400, 10*full-400), s(full/2+20, full/2-20), s(full/2+20, full/2-20), s(9*full+360, 9*full-360))
}

// sameKeeps asks Keeps.
func sameKeeps(t *testing.T, what string, l api.VatRules, load api.Range, temperatures []api.Range, want [2]int, wantErr api.Errno) {
	t.Helper()
	possibly, surely, e := vat.Keeps(l, load, temperatures)
	same(t, "Keeps: "+what, [2]int{possibly, surely}, e, want, wantErr)
}

func TestP6_8Keeps(t *testing.T) {
	// Germs grow by 10, by 50 or by 300, or by anything from 10 to 300.
	cold, mild, hot, wide := one(0), one(100), one(200), r(0, 200)
	for i, c := range []struct {
		load         api.Range
		temperatures []api.Range
		want         [2]int
	}{
		{r(0, 0), nil, [2]int{-1, -1}},
		{one(1000), nil, [2]int{-1, -1}},
		{one(1000), set(cold), [2]int{0, 0}},
		{one(2000), set(cold, cold), [2]int{0, 0}},
		{r(999, 1000), set(cold), [2]int{0, 0}},
		{r(989, 990), set(cold), [2]int{0, -1}},
		{r(989, 989), set(cold), [2]int{-1, -1}},
		{r(0, 989), set(cold), [2]int{-1, -1}},
		{one(990), set(cold), [2]int{0, 0}},
		{one(980), set(cold), [2]int{-1, -1}},
		{one(980), set(cold, cold), [2]int{1, 1}},
		{r(0, 100), set(hot, hot, hot, hot, hot), [2]int{2, 3}},
		{r(0, 100), set(hot, hot, hot), [2]int{2, -1}},
		{r(0, 99), set(hot, hot, hot), [2]int{-1, -1}},
		{r(0, 0), set(wide, wide, wide, wide), [2]int{3, -1}},
		{r(0, 0), set(wide, wide, wide, wide, wide, wide), [2]int{3, -1}},
		{r(0, 0), append(set(wide, wide, wide, wide, wide, wide), times(94, cold)...), [2]int{3, 99}},
		{r(0, 0), times(20, mild), [2]int{19, 19}},
		{r(0, 0), times(1000, cold), [2]int{99, 99}},
		{r(0, 0), append(times(99, cold), set(mild, hot)...), [2]int{99, 99}},
		{r(0, 1000000), set(hot, hot), [2]int{0, -1}},
		{one(1000000), set(hot), [2]int{0, 0}},
	} {
		sameKeeps(t, fmt.Sprint("case ", i), usual(), c.load, c.temperatures, c.want, api.OK)
	}
	most := rulesWith(func(l *api.VatRules) { l.Limit = 1000000; l.Growth[2].Y = 1000000 })
	sameKeeps(t, "as many germs as there can be", most, r(0, 1), set(cold, hot, hot), [2]int{1, 1}, api.OK)
	sameKeeps(t, "just not as many", most, r(0, 0), append(times(999, cold), hot), [2]int{999, 999}, api.OK)
	sameKeeps(t, "never so many", most, r(0, 0), times(1000, cold), [2]int{-1, -1}, api.OK)
}

func TestP6_8Errors(t *testing.T) {
	bad := rulesWith(func(l *api.VatRules) { l.Limit = 0 })
	cold := one(0)
	for i, c := range []struct {
		l            api.VatRules
		load         api.Range
		temperatures []api.Range
		want         api.Errno
	}{
		{usual(), r(-1, 0), set(cold), api.ErrArg}, {usual(), r(1, 0), set(cold), api.ErrArg}, {usual(), r(0, 1000001), set(cold), api.ErrArg}, {usual(), r(low, high), nil, api.ErrArg},
		{bad, r(0, 0), nil, api.ErrArg}, {bad, r(0, 0), times(1001, cold), api.ErrArg}, {usual(), r(1, 0), times(1001, one(201)), api.ErrArg}, {bad, r(1, 0), set(one(201)), api.ErrArg},
		{usual(), r(0, 0), times(1001, cold), api.ErrLong}, {usual(), r(0, 0), times(1001, r(1, 0)), api.ErrLong}, {usual(), r(0, 0), times(1001, one(201)), api.ErrLong},
		{usual(), r(0, 0), set(r(1, 0)), api.ErrArg}, {usual(), r(0, 0), set(one(201)), api.ErrRange}, {usual(), r(0, 0), set(r(-1, 0)), api.ErrRange}, {usual(), r(0, 0), set(r(low, high)), api.ErrArg},
		{usual(), r(0, 0), set(cold, r(1, 0), one(201)), api.ErrArg}, {usual(), r(0, 0), set(cold, one(201), r(1, 0)), api.ErrRange},
		{usual(), one(1000), append(times(999, one(200)), one(201)), api.ErrRange}, {usual(), one(1000), append(times(999, one(200)), r(1, 0)), api.ErrArg},
		{usual(), one(1000), append(set(r(1, 0)), times(999, one(201))...), api.ErrArg},
	} {
		sameKeeps(t, fmt.Sprint("error ", i), c.l, c.load, c.temperatures, [2]int{}, c.want)
	}
	for i, c := range rulesCases() {
		l := rulesWith(c.change)
		if c.want != api.OK {
			sameKeeps(t, fmt.Sprint("rules ", i), l, r(0, 0), set(r(1, 0)), [2]int{}, c.want)
			continue
		}
		sameKeeps(t, fmt.Sprint("rules ", i), l, r(0, 0), nil, [2]int{-1, -1}, api.OK)
	}
}

// anyHours returns temperatures that a table has.
func anyHours(d *rand.Rand, growth []api.Row, hours int) []api.Range {
	var l []api.Range
	for range hours {
		l = append(l, pickRange(d, growth[0].X, growth[len(growth)-1].X))
	}
	return l
}

// TestP6_8AsStay keeps sap in a cellar, and by the definitions.
func TestP6_8AsStay(t *testing.T) {
	d := dice()
	never, later := 0, 0
	for range 500 {
		l := anyRules(d)
		load, hours := pickRange(d, 0, l.Limit), anyHours(d, l.Growth, pick(d, 0, 30))
		want, grown := [2]int{-1, -1}, load
		c := newCellar(t, l, 10)
		pour(t, c, 0, s(1, 0), load)
		for hour, temperature := range hours {
			stay(t, c, 1, temperature)
			g := growths(l.Growth, temperature)
			grown = r(grown.Low+g.Low, grown.High+g.High)
			told, e := c.Tell(0)
			if told.Load != grown || e != api.OK {
				t.Fatal("Tell", l, load, hours, hour, told, grown, e)
			}
			if told.Possibly == 1 && want[0] < 0 {
				want[0] = hour
			}
			if told.Surely == 1 && want[1] < 0 {
				want[1] = hour
			}
		}
		sameKeeps(t, fmt.Sprint(l, load, hours), l, load, hours, want, api.OK)
		if want[0] >= 0 && want[1] < 0 {
			never++
		}
		if want[1] > want[0] {
			later++
		}
	}
	if never < 50 || later < 50 {
		t.Error("too few of some kind:", never, later)
	}
}

// TestP6_6Values shows that growth is what chapter 1 tells of the table.
func TestP6_6Values(t *testing.T) {
	d := dice()
	for range 500 {
		l := anyRules(d)
		hours, temperature := pick(d, 0, 100), anyHours(d, l.Growth, 1)[0]
		g, e := span.Values(l.Growth, temperature)
		if e != api.OK || g != growths(l.Growth, temperature) {
			t.Fatal("Values", l.Growth, temperature, g, e)
		}
		c := newCellar(t, l, 10)
		pour(t, c, 0, s(1, 0), r(3, 8))
		stay(t, c, hours, temperature)
		told, e := c.Tell(0)
		same(t, fmt.Sprint("the load ", l, hours, temperature), told.Load, e, r(3+hours*g.Low, 8+hours*g.High), api.OK)
		same(t, fmt.Sprint("the film ", l, hours, temperature), told.Film, e, r(hours*l.Film.Low, hours*l.Film.High), api.OK)
	}
}
