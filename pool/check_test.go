package pool_test

import (
	"fmt"
	"testing"

	"spile/api"
	"spile/pool"
)

// TestP10_2CheckPool sets each number of rules to its bounds, and beyond them.
func TestP10_2CheckPool(t *testing.T) {
	r := usual()
	step(t, "CheckPool", rulesBounds(&r), api.ErrArg, func() api.Errno { return pool.CheckPool(r) })
	step(t, "Accept", rulesBounds(&r), api.ErrArg, func() api.Errno {
		_, _, e := pool.Accept(r, usualMembers(), nil)
		return e
	})
	step(t, "Settle", rulesBounds(&r), api.ErrArg, func() api.Errno {
		_, _, _, e := pool.Settle(r, usualMembers(), nil, 1000)
		return e
	})
	step(t, "Years", rulesBounds(&r), api.ErrArg, func() api.Errno {
		_, _, _, _, e := pool.Years(r, usualMembers(), seasons(season(0, 0)))
		return e
	})
	sameErr(t, "CheckPool of nothing", pool.CheckPool(api.PoolRules{}), api.ErrArg)
	sameErr(t, "CheckPool of least rules", pool.CheckPool(api.PoolRules{Prices: list(0)}), api.OK)
}

// TestP10_2Prices has no price, as many as there can be, and one more.
func TestP10_2Prices(t *testing.T) {
	for n, want := range map[int]api.Errno{0: api.ErrArg, 1: api.OK, 2: api.OK, 7: api.OK, 8: api.OK, 9: api.ErrArg, 1000: api.ErrArg} {
		for _, prices := range [][]int{times(n, 0), times(n, 1000000)} {
			r := with(func(r *api.PoolRules) { r.Prices = prices })
			sameErr(t, fmt.Sprint("CheckPool with prices: ", n), pool.CheckPool(r), want)
			_, _, e := pool.Accept(r, nil, nil)
			sameErr(t, fmt.Sprint("Accept with prices: ", n), e, want)
		}
	}
	for i := range 8 {
		for _, price := range list(-1, 1000001, low, high) {
			r := with(func(r *api.PoolRules) { r.Prices = times(8, 5) })
			r.Prices[i] = price
			sameErr(t, fmt.Sprint("CheckPool with the price ", i, " ", price), pool.CheckPool(r), api.ErrArg)
		}
	}
}

// TestP10_2CheckMembers sets each number of members to its bounds, and beyond them; and there are none, as many as there can be, and one more.
func TestP10_2CheckMembers(t *testing.T) {
	for _, i := range list(0, 1) {
		l := usualMembers()
		step(t, "CheckMembers", memberBounds(&l[i]), api.ErrArg, func() api.Errno { return pool.CheckMembers(l) })
		step(t, "Leased", memberBounds(&l[i]), api.ErrArg, func() api.Errno {
			_, _, e := pool.Leased(l, nil)
			return e
		})
		step(t, "Accept", memberBounds(&l[i]), api.ErrArg, func() api.Errno {
			_, _, e := pool.Accept(usual(), l, nil)
			return e
		})
		step(t, "Settle", memberBounds(&l[i]), api.ErrArg, func() api.Errno {
			_, _, _, e := pool.Settle(usual(), l, nil, 1000)
			return e
		})
		step(t, "Years", memberBounds(&l[i]), api.ErrArg, func() api.Errno {
			_, _, _, _, e := pool.Years(usual(), l, seasons(season(0, 0)))
			return e
		})
	}
	for n, want := range map[int]api.Errno{0: api.OK, 1: api.OK, 29: api.OK, 30: api.OK, 31: api.ErrLong, 5000: api.ErrLong} {
		for _, organic := range []bool{false, true} {
			l := times(n, api.Member{Quota: 5, Organic: organic})
			sameErr(t, fmt.Sprint("CheckMembers of ", n), pool.CheckMembers(l), want)
			_, _, e := pool.Leased(l, nil)
			sameErr(t, fmt.Sprint("Leased of ", n), e, want)
			_, _, e = pool.Accept(usual(), l, nil)
			sameErr(t, fmt.Sprint("Accept of ", n), e, want)
		}
	}
	sameErr(t, "CheckMembers of too many wrong ones", pool.CheckMembers(times(31, member(-1, -1))), api.ErrLong)
	sameErr(t, "CheckMembers of wrong ones", pool.CheckMembers(times(30, member(-1, -1))), api.ErrArg)
}

// TestP10_2First has rules and members with errors, and others behind them.
func TestP10_2First(t *testing.T) {
	bad := needing(-1)
	wrong, many := members(member(-1, 0)), times(31, member(-1, 0))
	badDelivery := deliveries(plain(9, 0, 1))
	manyDeliveries := times(301, plain(9, 9, -1))
	for _, c := range []struct {
		r    api.PoolRules
		l    []api.Member
		want api.Errno
	}{
		{bad, usualMembers(), api.ErrArg}, {bad, many, api.ErrArg}, {bad, wrong, api.ErrArg}, {usual(), many, api.ErrLong}, {usual(), wrong, api.ErrArg}, {usual(), times(31, member(0, 0)), api.ErrLong},
	} {
		refuses(t, c.r, c.l, c.want)
		for _, given := range [][]api.Delivery{badDelivery, manyDeliveries} {
			sameAccept(t, c.r, c.l, given, nil, 0, c.want)
			sameSettle(t, c.r, c.l, given, -1, nil, api.PoolBook{}, 0, c.want)
			sameYears(t, c.r, c.l, times(11, season(-1, -1, given...)), nil, yeared{}, c.want)
			sameYears(t, c.r, c.l, seasons(season(5, 5), season(-1, -1, given...)), nil, yeared{}, c.want)
		}
	}
	sameLeased(t, many, times(31, lease(9, 9, -1)), nil, 0, api.ErrLong)
	sameLeased(t, wrong, times(31, lease(9, 9, -1)), nil, 0, api.ErrArg)
	sameLeased(t, wrong, leases(lease(0, 0, 1), lease(9, 9, -1)), nil, 0, api.ErrArg)
}

func TestP10_3Practice(t *testing.T) {
	r := usual().Organic
	none := api.OrganicRules{}
	for _, c := range []struct {
		r    api.OrganicRules
		p    api.Practice
		want int
	}{
		{r, kept(), 0}, {r, api.Practice{Trees: 100, Taps: 199, Others: 21, Oils: 0, Cleaners: 1}, 0}, {r, api.Practice{Trees: 100, Taps: 0, Others: 100, Oils: 1, Cleaners: 2}, 0},
		{r, api.Practice{Trees: 100, Taps: 201, Others: 20, Oils: 1, Cleaners: 3}, 1}, {r, api.Practice{Trees: 99, Taps: 199, Others: 20}, 1}, {r, api.Practice{Trees: 99, Taps: 198, Others: 20}, 0},
		{r, api.Practice{Trees: 0, Taps: 0, Others: 20}, 0}, {r, api.Practice{Trees: 0, Taps: 1, Others: 20}, 1}, {none, api.Practice{Trees: 1000000, Taps: 1}, 1}, {none, api.Practice{Trees: 1000000}, 0}, {none, api.Practice{}, 0},
		{r, api.Practice{Trees: 100, Taps: 200, Others: 19, Oils: 1, Cleaners: 3}, 2}, {r, api.Practice{Trees: 100, Taps: 200, Others: 0, Oils: 1, Cleaners: 3}, 2},
		{r, api.Practice{Trees: 100, Taps: 200, Others: 20, Oils: 3, Cleaners: 3}, 3}, {r, api.Practice{Trees: 100, Taps: 200, Others: 20, Oils: 2, Cleaners: 3}, 3}, {r, api.Practice{Trees: 100, Taps: 200, Others: 20, Oils: 128, Cleaners: 3}, 3}, {none, api.Practice{Oils: 1}, 3},
		{r, api.Practice{Trees: 100, Taps: 200, Others: 20, Oils: 1, Cleaners: 4}, 4}, {r, api.Practice{Trees: 100, Taps: 200, Others: 20, Oils: 1, Cleaners: 7}, 4}, {r, api.Practice{Trees: 100, Taps: 200, Others: 20, Oils: 1, Cleaners: 255}, 4}, {none, api.Practice{Cleaners: 1}, 4},
		{r, api.Practice{Trees: 100, Taps: 201, Others: 19, Oils: 3, Cleaners: 4}, 1}, {r, api.Practice{Trees: 100, Taps: 200, Others: 19, Oils: 3, Cleaners: 4}, 2}, {r, api.Practice{Trees: 100, Taps: 200, Others: 20, Oils: 3, Cleaners: 4}, 3}, {r, api.Practice{Trees: 100, Taps: 201, Others: 20, Oils: 1, Cleaners: 4}, 1}, {r, api.Practice{Trees: 100, Taps: 200, Others: 19, Oils: 1, Cleaners: 4}, 2}, {r, api.Practice{Taps: 1, Others: 20, Oils: 3}, 1},
		{api.OrganicRules{Taps: 20, Others: 100, Oils: 255, Cleaners: 255}, api.Practice{Trees: 50000, Taps: 1000000, Others: 100, Oils: 255, Cleaners: 255}, 0}, {api.OrganicRules{Taps: 20, Others: 100, Oils: 255, Cleaners: 255}, api.Practice{Trees: 49999, Taps: 1000000, Others: 100, Oils: 255, Cleaners: 255}, 1}, {api.OrganicRules{Taps: 20, Others: 100, Oils: 255, Cleaners: 255}, api.Practice{Trees: 1000000, Taps: 1000000, Others: 99, Oils: 255, Cleaners: 255}, 2},
		{api.OrganicRules{Taps: 1, Oils: 254, Cleaners: 127}, api.Practice{Oils: 255, Cleaners: 255}, 3}, {api.OrganicRules{Taps: 1, Oils: 254, Cleaners: 127}, api.Practice{Oils: 254, Cleaners: 128}, 4},
	} {
		samePractice(t, c.r, c.p, c.want, api.OK)
		if truly := ruleOf(c.r, c.p); truly != c.want {
			t.Error("by the definition:", c.r, c.p, truly)
		}
	}
	d := dice()
	for range 20000 {
		r := anyRules(d).Organic
		p := anyPractice(d, r)
		samePractice(t, r, p, ruleOf(r, p), api.OK)
	}
}

// TestP10_3Errors sets each number of organic rules and of a practice to its bounds, and beyond them.
func TestP10_3Errors(t *testing.T) {
	r, p := usual().Organic, kept()
	call := func() api.Errno {
		rule, e := pool.Practice(r, p)
		if e != api.OK && rule != 0 {
			t.Error("a rule beside an error:", r, p, rule, e)
		}
		return e
	}
	step(t, "Practice", organicBounds(&r), api.ErrArg, call)
	step(t, "Practice", practiceBounds(&p), api.ErrArg, call)
	samePractice(t, api.OrganicRules{Taps: -1}, api.Practice{Trees: -1}, 0, api.ErrArg)
	samePractice(t, api.OrganicRules{Taps: high}, api.Practice{Trees: high}, 0, api.ErrArg)
	// With two numbers below 0 the product would not be.
	samePractice(t, r, api.Practice{Trees: -1, Taps: -1000000, Others: 20}, 0, api.ErrArg)
	samePractice(t, r, api.Practice{Trees: 100, Taps: 201, Others: 101}, 0, api.ErrArg)
	samePractice(t, r, api.Practice{Trees: 100, Taps: 200, Others: 20, Oils: 256}, 0, api.ErrArg)
}
