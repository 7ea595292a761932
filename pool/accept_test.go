package pool_test

import (
	"fmt"
	"slices"
	"testing"

	"spile/api"
	"spile/pool"
)

// TestP10_5Demand has all kinds of need: none, some that the store meets in part, just or not, and excess that is admitted not at all, in part and whole.
func TestP10_5Demand(t *testing.T) {
	for _, c := range []struct {
		demand      int
		first, next api.PoolAccount
	}{
		{0, account(40000, 40000, 0, 0, 20000, 36000000), account(60000, 30000, 0, 0, 30000, 27000000)},
		{40000, account(40000, 40000, 0, 0, 20000, 36000000), account(60000, 30000, 0, 0, 30000, 27000000)},
		{69999, account(40000, 40000, 0, 0, 20000, 36000000), account(60000, 30000, 0, 0, 30000, 27000000)},
		{70000, account(40000, 40000, 0, 0, 20000, 36000000), account(60000, 30000, 0, 0, 30000, 27000000)},
		{70001, account(40000, 40000, 0, 1, 19999, 36000600), account(60000, 30000, 0, 0, 30000, 27000000)},
		{80000, account(40000, 40000, 0, 10000, 10000, 42000000), account(60000, 30000, 0, 0, 30000, 27000000)},
		{89999, account(40000, 40000, 0, 19999, 1, 47999400), account(60000, 30000, 0, 0, 30000, 27000000)},
		{90000, account(40000, 40000, 0, 20000, 0, 48000000), account(60000, 30000, 0, 0, 30000, 27000000)},
		{90001, account(40000, 40000, 0, 20000, 0, 48000000), account(60000, 30000, 1, 0, 29999, 27001000)},
		{90002, account(40000, 40000, 0, 20000, 0, 48000000), account(60000, 30000, 2, 0, 29998, 27001800)},
		{100000, account(40000, 40000, 0, 20000, 0, 48000000), account(60000, 30000, 10000, 0, 20000, 36000000)},
		{119999, account(40000, 40000, 0, 20000, 0, 48000000), account(60000, 30000, 29999, 0, 1, 53999200)},
		{120000, account(40000, 40000, 0, 20000, 0, 48000000), account(60000, 30000, 30000, 0, 0, 54000000)},
		{120001, account(40000, 40000, 0, 20000, 0, 48000000), account(60000, 30000, 30000, 0, 0, 54000000)},
		{10000000000, account(40000, 40000, 0, 20000, 0, 48000000), account(60000, 30000, 30000, 0, 0, 54000000)},
	} {
		sameAccept(t, needing(c.demand), usualMembers(), usualDeliveries(), accounts(c.first, c.next), 0, api.OK)
	}
}

// TestP10_5Quotas has members who deliver nothing, less than the quota, just the quota, and more.
func TestP10_5Quotas(t *testing.T) {
	r := needing(0)
	for _, c := range []struct {
		l     []api.Member
		given []api.Delivery
		want  []api.PoolAccount
	}{
		{nil, nil, nil}, {members(), deliveries(), nil},
		{members(member(0, 0)), nil, accounts(account(0, 0, 0, 0, 0, 0))}, {members(member(50, 9)), nil, accounts(account(0, 0, 0, 0, 9, 0))},
		{members(member(50, 9)), deliveries(plain(0, 0, 49)), accounts(account(49, 49, 0, 0, 9, 44100))}, {members(member(50, 9)), deliveries(plain(0, 0, 50)), accounts(account(50, 50, 0, 0, 9, 45000))}, {members(member(50, 9)), deliveries(plain(0, 0, 51)), accounts(account(51, 50, 0, 0, 10, 45000))},
		{members(member(50, 0)), deliveries(plain(0, 2, 51)), accounts(account(51, 50, 0, 0, 1, 35000))}, {members(member(0, 0)), deliveries(plain(0, 0, 1)), accounts(account(1, 0, 0, 0, 1, 0))}, {members(member(0, 7)), deliveries(plain(0, 0, 1), plain(0, 1, 3)), accounts(account(4, 0, 0, 0, 11, 0))},
		{members(member(5, 0), member(5, 0), member(5, 0)), deliveries(plain(2, 0, 7), plain(0, 0, 4)), accounts(account(4, 4, 0, 0, 0, 3600), account(0, 0, 0, 0, 0, 0), account(7, 5, 0, 0, 2, 4500))},
		{members(member(100000000, 100000000)), deliveries(plain(0, 0, 100000000)), accounts(account(100000000, 100000000, 0, 0, 100000000, 90000000000))}, {members(member(0, 100000000)), deliveries(plain(0, 0, 100000000)), accounts(account(100000000, 0, 0, 0, 200000000, 0))},
	} {
		sameAccept(t, r, c.l, c.given, c.want, 0, api.OK)
	}
}

// TestP10_5Shared has several members among whom what is released, or admitted, is shared.
func TestP10_5Shared(t *testing.T) {
	stores := members(member(0, 3), member(0, 0), member(9, 1))
	for demand, want := range map[int][]int{0: {0, 0, 0}, 1: {1, 0, 0}, 2: {2, 0, 0}, 3: {2, 0, 1}, 4: {3, 0, 1}, 5: {3, 0, 1}} {
		released := accounts(account(0, 0, 0, want[0], 3-want[0], want[0]*600), account(0, 0, 0, 0, 0, 0), account(0, 0, 0, want[2], 1-want[2], want[2]*600))
		sameAccept(t, needing(demand), stores, nil, released, 0, api.OK)
	}
	three := members(member(1, 0), member(1, 0), member(1, 0))
	given := deliveries(plain(0, 0, 2), plain(1, 0, 2), plain(2, 0, 2))
	for demand, want := range map[int][]int{3: {0, 0, 0}, 4: {1, 0, 0}, 5: {1, 1, 0}, 6: {1, 1, 1}, 7: {1, 1, 1}} {
		var admitted []api.PoolAccount
		for _, n := range want {
			admitted = append(admitted, account(2, 1, n, 0, 1-n, 900+n*900))
		}
		sameAccept(t, needing(demand), three, given, admitted, 0, api.OK)
	}
	// Who has less excess than quota gets as much of the store as the other one, who has no excess at all.
	both := members(member(10, 4), member(10, 4))
	given = deliveries(plain(0, 0, 5), plain(1, 0, 12))
	sameAccept(t, needing(20), both, given, accounts(account(5, 5, 0, 3, 1, 6300), account(12, 10, 0, 2, 4, 10200)), 0, api.OK)
	sameAccept(t, needing(24), both, given, accounts(account(5, 5, 0, 4, 0, 6900), account(12, 10, 1, 4, 1, 12300)), 0, api.OK)
}

// TestP10_5NobodyHasAny has a need where nothing is stored, and no member has excess.
func TestP10_5NobodyHasAny(t *testing.T) {
	poor := members(member(10, 0), member(10, 0))
	sameAccept(t, needing(100), poor, nil, accounts(account(0, 0, 0, 0, 0, 0), account(0, 0, 0, 0, 0, 0)), 0, api.OK)
	sameAccept(t, needing(100), poor, deliveries(plain(1, 0, 10)), accounts(account(0, 0, 0, 0, 0, 0), account(10, 10, 0, 0, 0, 9000)), 0, api.OK)
	sameAccept(t, needing(100), poor, deliveries(plain(1, 0, 12)), accounts(account(0, 0, 0, 0, 0, 0), account(12, 10, 2, 0, 0, 10800)), 0, api.OK)
	sameAccept(t, needing(100), members(member(10, 3)), deliveries(plain(0, 0, 9)), accounts(account(9, 9, 0, 3, 0, 9900)), 0, api.OK)
}

// priced is rules whose prices tell each sort: 1, 10, 100 .. for the grades, and 2 more for what is organic.
func priced() api.PoolRules {
	return with(func(r *api.PoolRules) {
		r.Prices, r.Premium, r.Demand = list(1, 10, 100, 1000, 10000, 100000, 1000000), 2, 0
		r.Prices = append(r.Prices, 500000)
	})
}

// TestP10_5Sorts shares accepted grams among sorts, with remainders: those of the same one go to the sorts in their order.
func TestP10_5Sorts(t *testing.T) {
	var each []api.Delivery
	for grade := range 8 {
		each = append(each, green(0, 7-grade, 1), plain(0, 7-grade, 1))
	}
	prices := list(1, 3, 10, 12, 100, 102, 1000, 1002, 10000, 10002, 100000, 100002, 1000000, 1000002, 500000, 500002)
	points := 0
	for quota := range 17 {
		if quota > 0 {
			points += prices[quota-1]
		}
		sameAccept(t, priced(), members(organic(quota, 0)), each, accounts(account(16, quota, 0, 0, 16-quota, points)), 0, api.OK)
	}
	for _, c := range []struct {
		given  []api.Delivery
		quota  int
		points int
	}{
		{deliveries(plain(0, 0, 1), plain(0, 1, 2)), 1, 10}, {deliveries(plain(0, 0, 1), plain(0, 1, 2)), 2, 11}, {deliveries(plain(0, 1, 1), plain(0, 0, 1)), 1, 1}, {deliveries(plain(0, 0, 3), plain(0, 1, 3), plain(0, 2, 1)), 5, 2 + 20 + 100},
		{deliveries(green(0, 0, 1), plain(0, 1, 1)), 1, 3}, {deliveries(green(0, 1, 1), plain(0, 1, 1)), 1, 10}, {deliveries(green(0, 1, 5), plain(0, 1, 2)), 5, 48 + 10}, {deliveries(plain(0, 0, 7), green(0, 7, 3)), 10, 7 + 3*500002},
		{deliveries(plain(0, 1, 1), plain(0, 1, 1), plain(0, 0, 1)), 1, 10}, {deliveries(green(0, 2, 1), plain(0, 3, 2), green(0, 2, 1), plain(0, 3, 2), green(0, 2, 1)), 3, 102 + 2000},
	} {
		all := 0
		for _, x := range c.given {
			all += x.Mass
		}
		sameAccept(t, priced(), members(organic(c.quota, 0)), c.given, accounts(account(all, c.quota, 0, 0, all-c.quota, c.points)), 0, api.OK)
	}
	// What is admitted is of the same sorts, and what is released of none.
	r := priced()
	r.Demand = 13
	sameAccept(t, r, members(organic(3, 6)), deliveries(plain(0, 0, 6), green(0, 1, 2)), accounts(account(8, 3, 4, 6, 1, 5+24+3600)), 0, api.OK)
}

// TestP10_5Organic has deliveries that are called organic, or are not, of members who are, or are not, and practices that break each rule.
func TestP10_5Organic(t *testing.T) {
	l := members(member(100, 0), organic(100, 0))
	broken := func(change func(p *api.Practice)) api.Delivery {
		x := green(1, 0, 10)
		change(&x.Practice)
		return x
	}
	for i, c := range []struct {
		x    api.Delivery
		want int
	}{
		{green(1, 0, 10), 10000}, {plain(1, 0, 10), 9000}, {green(0, 0, 10), 9000}, {plain(0, 0, 10), 9000}, {green(1, 2, 10), 8000},
		{broken(func(p *api.Practice) { p.Taps = 201 }), 9000}, {broken(func(p *api.Practice) { p.Trees = 99 }), 9000}, {broken(func(p *api.Practice) { p.Others = 19 }), 9000}, {broken(func(p *api.Practice) { p.Oils = 3 }), 9000}, {broken(func(p *api.Practice) { p.Cleaners = 4 }), 9000}, {broken(func(p *api.Practice) { *p = api.Practice{} }), 9000},
		{broken(func(p *api.Practice) { p.Trees, p.Taps = 0, 0 }), 10000}, {broken(func(p *api.Practice) { p.Oils, p.Cleaners, p.Others = 0, 1, 100 }), 10000},
	} {
		got, at, e := pool.Accept(usual(), l, deliveries(c.x))
		if e != api.OK || at != 0 || got[c.x.Member].Points != c.want {
			t.Error(i, c.x, got, at, e, c.want)
		}
	}
}

// TestP10_5Delivery sets each number of the last delivery to its bounds, and beyond them.
func TestP10_5Delivery(t *testing.T) {
	l := members(member(5, 0), member(0, 0), organic(7, 0))
	given := deliveries(plain(0, 0, 1), plain(1, 1, 2), green(2, 2, 3))
	x := &given[2]
	call := func() api.Errno {
		_, at, e := pool.Accept(usual(), l, given)
		_, _, settledAt, settled := pool.Settle(usual(), l, given, 1000)
		_, _, _, yearAt, year := pool.Years(usual(), l, seasons(season(0, 0, given...)))
		if e != settled || e != year || at != settledAt || at != yearAt || (e != api.OK) != (at == 2) {
			t.Error("not the same error, or not the number of the delivery:", *x, at, e, settledAt, settled, yearAt, year)
		}
		return e
	}
	step(t, "Accept", []bound{{"Grade", &x.Grade, 0, 2}, {"Mass", &x.Mass, 1, 100000000}}, api.ErrArg, call)
	step(t, "Accept", practiceBounds(&x.Practice), api.ErrArg, call)
	step(t, "Accept", []bound{{"Member", &x.Member, 0, 2}}, api.ErrNone, call)
}

func TestP10_5Errors(t *testing.T) {
	bad := plain(0, 0, 1)
	bad.Practice.Trees = -1
	good, full := plain(0, 0, 1), plain(1, 0, 100000000)
	lot := green(1, 0, 99999999)
	for _, c := range []struct {
		given []api.Delivery
		at    int
		want  api.Errno
	}{
		{times(301, good), 0, api.ErrLong}, {times(301, plain(9, 9, 0)), 0, api.ErrLong}, {times(100000, full), 0, api.ErrLong},
		{deliveries(plain(2, 0, 1)), 0, api.ErrNone}, {deliveries(good, good, plain(-1, 0, 1)), 2, api.ErrNone}, {deliveries(good, plain(2, 9, 0)), 1, api.ErrNone}, {append(times(299, good), plain(2, 0, 1)), 299, api.ErrNone},
		{deliveries(plain(0, 3, 1)), 0, api.ErrArg}, {deliveries(good, plain(0, -1, 1)), 1, api.ErrArg}, {deliveries(good, plain(0, 0, 0)), 1, api.ErrArg}, {deliveries(good, good, bad), 2, api.ErrArg}, {deliveries(full, plain(1, 3, 1)), 1, api.ErrArg}, {deliveries(full, plain(1, 0, 100000001)), 1, api.ErrArg}, {deliveries(full, plain(1, 0, high)), 1, api.ErrArg},
		{deliveries(full, plain(1, 0, 1)), 1, api.ErrOver}, {deliveries(full, full), 1, api.ErrOver}, {deliveries(lot, good, plain(1, 2, 2)), 2, api.ErrOver}, {deliveries(lot, plain(1, 2, 1), green(1, 1, 1)), 2, api.ErrOver}, {append(times(299, plain(1, 0, 333333)), plain(1, 0, 333434)), 299, api.ErrOver},
		{deliveries(good, plain(0, 0, 0), plain(9, 0, 1)), 1, api.ErrArg}, {deliveries(plain(9, 0, 1), plain(0, 0, 0)), 0, api.ErrNone}, {deliveries(full, good, full, bad), 2, api.ErrOver},
	} {
		sameAccept(t, usual(), usualMembers(), c.given, nil, c.at, c.want)
		sameSettle(t, usual(), usualMembers(), c.given, 1000, nil, api.PoolBook{}, c.at, c.want)
		if _, at, e := acceptOf(usual(), usualMembers(), c.given); at != c.at || e != c.want {
			t.Error("by the definition:", c.given, at, e)
		}
	}
	sameAccept(t, usual(), nil, deliveries(plain(0, 0, 1)), nil, 0, api.ErrNone)
}

// TestP10_5JustDelivered has as much as a member can deliver, and as many deliveries as there can be.
func TestP10_5JustDelivered(t *testing.T) {
	one := members(member(10, 0))
	sameAccept(t, needing(0), one, deliveries(plain(0, 0, 99999999), plain(0, 1, 1)), accounts(account(100000000, 10, 0, 0, 99999990, 9000)), 0, api.OK)
	sameAccept(t, needing(0), one, times(300, plain(0, 0, 1)), accounts(account(300, 10, 0, 0, 290, 9000)), 0, api.OK)
	sameAccept(t, needing(0), one, append(times(299, plain(0, 0, 333333)), plain(0, 0, 333433)), accounts(account(100000000, 10, 0, 0, 99999990, 9000)), 0, api.OK)
	two := members(member(0, 0), member(0, 0))
	all := deliveries(plain(0, 0, 100000000), plain(1, 0, 100000000))
	sameAccept(t, needing(0), two, all, accounts(account(100000000, 0, 0, 0, 100000000, 0), account(100000000, 0, 0, 0, 100000000, 0)), 0, api.OK)
	// As many points as there can be.
	great := with(func(r *api.PoolRules) {
		r.Prices, r.Premium, r.Released, r.Demand = list(1000000), 1000000, 1000000, 10000000000
	})
	var given []api.Delivery
	for i := range 30 {
		given = append(given, green(i, 0, 100000000))
	}
	sameAccept(t, great, times(30, organic(100000000, 100000000)), given, times(30, account(100000000, 100000000, 0, 100000000, 0, 300000000000000)), 0, api.OK)
	sameAccept(t, great, times(30, organic(0, 100000000)), given, times(30, account(100000000, 0, 100000000, 100000000, 0, 300000000000000)), 0, api.OK)
	great.Demand = 2999999999
	sameAccept(t, great, times(30, organic(0, 100000000)), nil, append(times(29, account(0, 0, 0, 100000000, 0, 100000000000000)), account(0, 0, 0, 99999999, 1, 99999999000000)), 0, api.OK)
}

// TestP10_5Definitions compares any seasons with the definition.
func TestP10_5Definitions(t *testing.T) {
	d := dice()
	found := map[string]int{}
	for range 20000 {
		r, l, given := anySeason(d)
		want, at, e := acceptOf(r, l, given)
		sameAccept(t, r, l, given, want, at, e)
		found[fmt.Sprint("error ", e)]++
		kinds := map[string]func(a api.PoolAccount) bool{
			"released": func(a api.PoolAccount) bool { return a.Released > 0 },
			"admitted": func(a api.PoolAccount) bool { return a.Admitted > 0 },
			"in part":  func(a api.PoolAccount) bool { return a.Admitted > 0 && a.Admitted < a.Delivered-a.In },
			"stored":   func(a api.PoolAccount) bool { return a.Released > 0 && a.Stored > 0 },
		}
		for kind, is := range kinds {
			if slices.ContainsFunc(want, is) {
				found[kind]++
			}
		}
	}
	for _, kind := range []string{"error 0", "released", "admitted", "in part", "stored"} {
		if found[kind] < 1000 {
			t.Error("too few of a kind:", kind, found)
		}
	}
}
