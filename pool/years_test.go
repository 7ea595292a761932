package pool_test

import (
	"testing"

	"spile/api"
	"spile/pool"
)

func TestP10_7Years(t *testing.T) {
	// The Demand of the rules plays no part.
	r := needing(5)
	l := members(member(50000, 20000), organic(30000, 0))
	first := season(100000, 84000, usualDeliveries()...)
	want := [][]api.PoolAccount{
		accounts(paid(account(40000, 40000, 0, 20000, 0, 48000000), 43200, 24000, 2000, 17200), paid(account(60000, 30000, 10000, 0, 20000, 36000000), 32400, 18000, 2000, 12400)),
		accounts(account(0, 0, 0, 0, 0, 0), paid(account(0, 0, 0, 15000, 5000, 9000000), 9000, 4500, 0, 4500)),
		accounts(paid(account(60000, 50000, 0, 0, 10000, 45000000), 0, 22500, 2500, -25000), account(0, 0, 0, 0, 5000, 0)),
		accounts(paid(account(1, 1, 0, 10000, 0, 6000900), 6000, 3000, 0, 3000), paid(account(0, 0, 0, 5000, 0, 3000000), 3000, 1500, 0, 1500)),
	}
	books := []api.PoolBook{book(84000, 8400, 75600, 0, 4000, 100000), book(10000, 1000, 9000, 0, 0, 15000), book(0, 0, 0, 0, 2500, 50000), book(10000, 1000, 9000, 0, 0, 15001)}
	all := seasons(first, season(15000, 10000), season(0, 0, plain(0, 0, 60000)), season(10000000000, 10000, plain(0, 0, 1)))
	for n := range len(all) + 1 {
		sameYears(t, r, l, all[:n], want[:n], yeared{books: books[:n]}, api.OK)
	}
	sameYears(t, r, nil, nil, nil, yeared{}, api.OK)
	sameYears(t, r, nil, seasons(season(9, 20)), [][]api.PoolAccount{nil}, yeared{books: []api.PoolBook{book(20, 2, 0, 18, 0, 0)}}, api.OK)
	sameYears(t, r, members(member(0, 3)), times(10, season(0, 0)), times(10, accounts(account(0, 0, 0, 0, 3, 0))), yeared{books: times(10, api.PoolBook{})}, api.OK)
}

// TestP10_7Errors has each error in a first season, and in a later one.
func TestP10_7Errors(t *testing.T) {
	full := members(member(0, 100000000), member(5, 99999999))
	good := season(0, 0, plain(1, 0, 5))
	spilled := season(0, 0, plain(1, 0, 7))
	bad := plain(1, 0, 100000000)
	bad.Practice.Others = 101
	for _, c := range []struct {
		s    api.PoolSeason
		at   int
		want api.Errno
	}{
		{season(-1, 0), 0, api.ErrRange}, {season(10000000001, 0), 0, api.ErrRange}, {season(low, 0), 0, api.ErrRange}, {season(high, 0), 0, api.ErrRange}, {season(-1, -1, plain(9, 9, 9)), 0, api.ErrRange}, {season(-1, 0, times(301, plain(9, 9, 9))...), 0, api.ErrRange},
		{season(0, 0, times(301, plain(1, 0, 1))...), 0, api.ErrLong}, {season(0, -1, times(301, plain(9, 0, 1))...), 0, api.ErrLong},
		{season(0, 0, plain(2, 0, 1)), 0, api.ErrNone}, {season(0, -1, plain(1, 0, 1), plain(1, 0, 1), plain(2, 0, 1)), 2, api.ErrNone}, {season(0, -1, plain(1, 0, 9), plain(1, 3, 1)), 1, api.ErrArg}, {season(0, -1, plain(1, 0, 9), bad, plain(1, 0, 1)), 1, api.ErrArg}, {season(0, 0, plain(1, 0, 99999990), plain(0, 0, 1), plain(0, 0, 2), plain(1, 0, 11)), 3, api.ErrOver},
		{season(0, -1), 0, api.ErrRange}, {season(0, 1000000000001), 0, api.ErrRange}, {season(0, -1, plain(1, 0, 7)), 0, api.ErrRange}, {season(0, high, plain(0, 0, 1)), 0, api.ErrRange},
		{spilled, 0, api.ErrOver}, {season(0, 0, plain(0, 0, 1)), 0, api.ErrOver}, {season(0, 0, plain(0, 0, 100000000), plain(1, 0, 100000000)), 0, api.ErrOver}, {season(6, 0, plain(0, 0, 8)), 0, api.ErrOver},
	} {
		for year := range 10 {
			before := append(times(year, good), c.s)
			sameYears(t, usual(), full, before, nil, yeared{year: year, at: c.at}, c.want)
			sameYears(t, usual(), full, append(before, times(9-year, season(-1, -1, plain(9, 9, 9)))...), nil, yeared{year: year, at: c.at}, c.want)
			sameYears(t, usual(), full, append(before, times(10-year, good)...), nil, yeared{}, api.ErrLong)
		}
	}
	sameYears(t, usual(), full, times(11, season(-1, -1)), nil, yeared{}, api.ErrLong)
	sameYears(t, usual(), nil, times(11, season(0, 0)), nil, yeared{}, api.ErrLong)
	// The rules must be valid, whatever the seasons need.
	sameYears(t, needing(-1), full, seasons(good), nil, yeared{}, api.ErrArg)
}

// TestP10_7JustStored has just as much in the store as there can be, in any season, and one gram more.
func TestP10_7JustStored(t *testing.T) {
	l := members(member(5, 99999998), member(0, 0))
	one := season(0, 0, plain(0, 0, 6))
	stored := func(n int) []api.PoolAccount {
		return accounts(paid(account(6, 5, 0, 0, n, 4500), 0, 2, 0, -2), account(0, 0, 0, 0, 0, 0))
	}
	sold := book(0, 0, 0, 0, 0, 5)
	sameYears(t, usual(), l, seasons(one, one), [][]api.PoolAccount{stored(99999999), stored(100000000)}, yeared{books: []api.PoolBook{sold, sold}}, api.OK)
	sameYears(t, usual(), l, seasons(one, one, one), nil, yeared{year: 2}, api.ErrOver)
	sameYears(t, usual(), l, seasons(one, one, one, one), nil, yeared{year: 2}, api.ErrOver)
	// Accept and Settle tell it, too, without an error.
	sameAccept(t, needing(0), members(member(5, 100000000)), one.Deliveries, accounts(account(6, 5, 0, 0, 100000001, 4500)), 0, api.OK)
	sameSettle(t, needing(0), members(member(5, 100000000)), one.Deliveries, 0, accounts(paid(account(6, 5, 0, 0, 100000001, 4500), 0, 2, 0, -2)), sold, 0, api.OK)
}

// TestP10_7Definitions compares any seasons with the definition.
func TestP10_7Definitions(t *testing.T) {
	d := dice()
	found := map[api.Errno]int{}
	for range 5000 {
		most := []int{3, 50, 1000, 50000000}[d.IntN(4)]
		r := anyRules(d)
		l := anyMembers(d, pick(d, 1, 6), most)
		var given []api.PoolSeason
		for range pick(d, 0, 10) {
			s := season(0, pick(d, 0, 1000000), anyDeliveries(d, r, len(l), pick(d, 0, 12), most)...)
			s.Demand = anyDemand(d, r, l, s.Deliveries)
			given = append(given, s)
		}
		if len(given) > 0 && d.IntN(4) == 0 {
			wrong := &given[d.IntN(len(given))]
			wrong.Revenue -= d.IntN(2) * (wrong.Revenue + 1)
			wrong.Demand -= d.IntN(2) * (wrong.Demand + 1)
			wrong.Deliveries = append(wrong.Deliveries, plain(pick(d, 0, len(l)), pick(d, 0, len(r.Prices)), pick(d, 0, 5)))
		}
		want, beside, e := yearsOf(r, l, given)
		sameYears(t, r, l, given, want, beside, e)
		found[e]++
	}
	for _, e := range []api.Errno{api.OK, api.ErrArg, api.ErrRange, api.ErrNone, api.ErrOver} {
		if found[e] < 30 {
			t.Error("too few with the error:", e, found)
		}
	}
}

// TestP10_7Settle settles each season by itself, with what was stored before.
func TestP10_7Settle(t *testing.T) {
	d := dice()
	for range 1000 {
		r, l, deliveries := anySeason(d)
		all := times(3, season(r.Demand, 5000, deliveries...))
		got, books, _, _, e := pool.Years(r, l, all)
		if e != api.OK {
			continue
		}
		for year := range all {
			sameSettle(t, r, l, deliveries, 5000, got[year], books[year], 0, api.OK)
			for i, a := range got[year] {
				l[i].Stored = a.Stored
			}
		}
	}
}
