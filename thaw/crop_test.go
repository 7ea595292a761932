package thaw_test

import (
	"fmt"
	"math/big"
	"testing"

	"spile/api"
	"spile/thaw"
)

func TestP4_7Gives(t *testing.T) {
	for i, c := range []struct {
		change func(l *api.ThawRules)
		groups []api.TapGroup
		want   api.Range
	}{
		{nil, nil, r(0, 0)},
		{nil, groups(group(10, 5000, 6000)), r(7500, 12800)},
		{nil, groups(group(10, 5000, 6000), group(10, 5000, 6000)), r(15000, 25600)},
		{nil, groups(group(0, 5000, 6000)), r(0, 0)},
		{nil, groups(group(1, 0, 0)), r(500, 800)},
		{nil, groups(group(1, 10000, 10000)), r(1000, 1600)},
		{nil, groups(group(2, 0, 10000)), r(1000, 3200)},
		{func(l *api.ThawRules) { l.Pull = 0 }, groups(group(3, 0, 10000)), r(1500, 2400)},
		{func(l *api.ThawRules) { l.Rate = one(0) }, groups(group(1000, 10000, 10000)), r(0, 0)},
		// A whole number is not rounded; what is just above it, or just below, is rounded outward.
		{func(l *api.ThawRules) { l.Rate = one(1) }, groups(group(1, 10000, 10000)), r(2, 2)},
		{func(l *api.ThawRules) { l.Rate = one(1) }, groups(group(1, 1, 1)), r(1, 2)},
		{func(l *api.ThawRules) { l.Rate = one(1) }, groups(group(1, 9999, 9999)), r(1, 2)},
		{func(l *api.ThawRules) { l.Rate = one(1) }, groups(group(1, 1, 9999)), r(1, 2)},
		{func(l *api.ThawRules) { l.Rate = one(3) }, groups(group(1, 5000, 5000)), r(4, 5)},
		// All taps of a group are rounded together, and each group by itself.
		{func(l *api.ThawRules) { l.Rate = one(3) }, groups(group(2, 5000, 5000)), r(9, 9)},
		{func(l *api.ThawRules) { l.Rate = one(3) }, groups(group(3, 5000, 5000)), r(13, 14)},
		{func(l *api.ThawRules) { l.Rate = one(3) }, groups(group(1, 5000, 5000), group(1, 5000, 5000)), r(8, 10)},
		{func(l *api.ThawRules) { l.Rate = one(3) }, groups(group(1, 5000, 5000), group(1, 0, 0), group(2, 5000, 5000)), r(16, 17)},
		{func(l *api.ThawRules) { l.Rate, l.Pull = r(1, 7), 3 }, groups(group(7, 1111, 3333)), r(9, 98)},
		// The limits.
		{func(l *api.ThawRules) { *l = greatest() }, groups(group(1000, 10000, 10000)), one(10100000000)},
		{func(l *api.ThawRules) { *l = greatest() }, times(60, group(1000, 10000, 10000)), one(606000000000)},
		{func(l *api.ThawRules) { *l = greatest(); l.Rate.Low = 0 }, times(60, group(1000, 0, 10000)), r(0, 606000000000)},
		{func(l *api.ThawRules) { *l = greatest(); l.Rate = one(99999) }, groups(group(999, 9999, 9999)), r(10088800110, 10088800111)},
	} {
		l := usual()
		if c.change != nil {
			c.change(&l)
		}
		got, e := thaw.Gives(l, c.groups)
		same(t, fmt.Sprint("Gives ", i), got, e, c.want, api.OK)
	}
}

// around returns a product divided by 10000, rounded down and rounded up.
func around(factors ...int) api.Range {
	product := big.NewInt(1)
	for _, x := range factors {
		product.Mul(product, big.NewInt(int64(x)))
	}
	whole, rest := new(big.Int).DivMod(product, big.NewInt(10000), new(big.Int))
	down := int(whole.Int64())
	if rest.Sign() > 0 {
		return r(down, down+1)
	}
	return one(down)
}

func TestP4_7AllTruths(t *testing.T) {
	d := dice()
	for range 2000 {
		l := usual()
		l.Rate, l.Pull = near(d, 0, 400, 300), pick(d, 0, 100)
		var all []api.TapGroup
		want := r(0, 0)
		truly := new(big.Int)
		for range pick(d, 0, 6) {
			v := near(d, 0, 9000, 1000)
			g := group(pick(d, 0, 1000), v.Low, v.High)
			all = append(all, g)
			want.Low += around(g.Taps, l.Rate.Low, 10000+l.Pull*g.Vacuum.Low).Low
			want.High += around(g.Taps, l.Rate.High, 10000+l.Pull*g.Vacuum.High).High
			for range g.Taps {
				truly.Add(truly, big.NewInt(int64(pick(d, l.Rate.Low, l.Rate.High)*(10000+l.Pull*pick(d, v.Low, v.High)))))
			}
		}
		got, e := thaw.Gives(l, all)
		what := fmt.Sprint(l, all)
		same(t, "Gives "+what, got, e, want, api.OK)
		if truly.Cmp(big.NewInt(int64(got.Low)*10000)) < 0 || truly.Cmp(big.NewInt(int64(got.High)*10000)) > 0 {
			t.Error("Gives", what, got, "has not the truth", truly)
		}
		hours := near(d, 0, 900, 100)
		crop, e := thaw.Crop(l, all, hours)
		same(t, "Crop "+what, crop, e, r(want.Low*hours.Low, want.High*hours.High), api.OK)
	}
}

func TestP4_7Crop(t *testing.T) {
	ten := groups(group(10, 5000, 6000))
	for i, c := range []struct {
		groups []api.TapGroup
		hours  api.Range
		want   api.Range
	}{
		{ten, r(0, 2), r(0, 25600)},
		{ten, r(0, 0), r(0, 0)},
		{ten, r(1, 1), r(7500, 12800)},
		{ten, r(2, 3), r(15000, 38400)},
		{ten, r(1000, 1000), r(7500000, 12800000)},
		{ten, r(0, 1000), r(0, 12800000)},
		{nil, r(0, 1000), r(0, 0)},
	} {
		got, e := thaw.Crop(usual(), c.groups, c.hours)
		same(t, fmt.Sprint("Crop ", i), got, e, c.want, api.OK)
	}
	// An hour is rounded before the hours are counted.
	odd := rulesWith(func(l *api.ThawRules) { l.Rate = one(3) })
	got, e := thaw.Crop(odd, groups(group(1, 5000, 5000)), r(10, 10))
	same(t, "Crop of rounded hours", got, e, r(40, 50), api.OK)
	got, e = thaw.Crop(greatest(), times(60, group(1000, 10000, 10000)), one(1000))
	same(t, "the greatest Crop", got, e, one(606000000000000), api.OK)
}

func TestP4_7Errors(t *testing.T) {
	good := group(10, 5000, 6000)
	check := func(what string, l []api.TapGroup, hours api.Range, gives, crop api.Errno) {
		t.Helper()
		got, e := thaw.Gives(usual(), l)
		same(t, "Gives: "+what, e, api.OK, gives, api.OK)
		if e != api.OK {
			same(t, "Gives: "+what, got, e, api.Range{}, gives)
		}
		got, e = thaw.Crop(usual(), l, hours)
		same(t, "Crop: "+what, e, api.OK, crop, api.OK)
		if e != api.OK {
			same(t, "Crop: "+what, got, e, api.Range{}, crop)
		}
	}
	check("60 groups", times(60, good), r(0, 1000), api.OK, api.OK)
	check("61 groups", times(61, good), r(0, 1000), api.ErrLong, api.ErrLong)
	check("limits", groups(group(0, 0, 0), group(1000, 0, 10000), group(1000, 10000, 10000)), one(0), api.OK, api.OK)
	for name, bad := range map[string]api.TapGroup{
		"taps below":       group(-1, 5000, 6000),
		"taps above":       group(1001, 5000, 6000),
		"vacuum below":     group(10, -1, 6000),
		"vacuum above":     group(10, 5000, 10001),
		"vacuum all above": group(10, 10001, 10001),
		"vacuum all below": group(10, -1, -1),
		"vacuum turned":    group(10, 6000, 5999),
		"no taps":          group(0, 1, 0),
		"far apart":        group(10, low, high),
	} {
		for at := range 3 {
			l := times(3, good)
			l[at] = bad
			check(fmt.Sprint(name, " at ", at), l, r(0, 1), api.ErrArg, api.ErrArg)
			check(fmt.Sprint(name, " and hours"), l, r(1, 0), api.ErrArg, api.ErrArg)
		}
		check(name+" in 61 groups", append(groups(bad), times(60, good)...), r(1, 0), api.ErrLong, api.ErrLong)
	}
	for _, hours := range set(r(1, 0), r(-1, 0), r(0, 1001), one(-1), one(1001), r(low, high), r(high, low)) {
		what := fmt.Sprint("hours ", hours)
		check(what, groups(good), hours, api.OK, api.ErrRange)
		check(what+" of nothing", nil, hours, api.OK, api.ErrRange)
		check(what+" and 61 groups", times(61, good), hours, api.ErrLong, api.ErrLong)
	}
}

func TestP4_8Missing(t *testing.T) {
	const most = api.MaxSpan
	for _, c := range []struct {
		ran       api.Range
		collected int
		want      api.Range
		e         api.Errno
	}{
		{r(0, 25600), 600, r(0, 25000), api.OK},
		{r(100, 200), 0, r(100, 200), api.OK},
		{r(100, 200), 60, r(40, 140), api.OK},
		{r(100, 200), 99, r(1, 101), api.OK},
		{r(100, 200), 100, r(0, 100), api.OK},
		{r(100, 200), 101, r(0, 99), api.OK},
		// Just what ran is collected, or one more.
		{r(100, 200), 200, r(0, 0), api.OK},
		{r(100, 200), 201, r(0, 0), api.ErrState},
		{one(100), 100, r(0, 0), api.OK},
		{one(100), 99, r(1, 1), api.OK},
		{one(100), 101, r(0, 0), api.ErrState},
		{r(0, 0), 0, r(0, 0), api.OK},
		{r(0, 0), 1, r(0, 0), api.ErrState},
		{r(0, most), most, r(0, 0), api.OK},
		{one(most), 0, one(most), api.OK},
		{one(most), most, r(0, 0), api.OK},
		// The first of several errors is told.
		{r(0, most), most + 1, r(0, 0), api.ErrRange},
		{r(0, 5), most + 1, r(0, 0), api.ErrRange},
		{r(0, 5), most, r(0, 0), api.ErrState},
		{r(100, 200), -1, r(0, 0), api.ErrRange},
		{r(100, 200), low, r(0, 0), api.ErrRange},
		{r(100, 200), high, r(0, 0), api.ErrRange},
		{r(-1, 200), 0, r(0, 0), api.ErrArg},
		{r(-5, -1), 0, r(0, 0), api.ErrArg},
		{r(0, most+1), 0, r(0, 0), api.ErrArg},
		{r(5, 4), 0, r(0, 0), api.ErrArg},
		{r(5, 4), -1, r(0, 0), api.ErrArg},
		{r(-1, 0), 7, r(0, 0), api.ErrArg},
		{r(low, high), most + 1, r(0, 0), api.ErrArg},
		{r(high, low), 0, r(0, 0), api.ErrArg},
	} {
		got, e := thaw.Missing(c.ran, c.collected)
		same(t, fmt.Sprint("Missing of ", c.ran, c.collected), got, e, c.want, c.e)
	}
	for ran := range 8 {
		for wide := range 8 {
			for collected := range ran + wide + 1 {
				got, e := thaw.Missing(r(ran, ran+wide), collected)
				for truly := max(ran, collected); truly <= ran+wide; truly++ {
					if left := truly - collected; e != api.OK || left < got.Low || left > got.High || got.Low < 0 {
						t.Error("Missing", ran, wide, collected, got, e, "has not the truth", truly)
					}
				}
			}
		}
	}
}
