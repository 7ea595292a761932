package pool_test

import (
	"slices"
	"testing"

	"spile/api"
	"spile/pool"
)

// told is the accounts of the chapter's examples before anybody is paid.
func told() []api.PoolAccount {
	return accounts(account(40000, 40000, 0, 20000, 0, 48000000), account(60000, 30000, 10000, 0, 20000, 36000000))
}

// TestP10_6Revenue has the rules of the chapter's examples, and any revenue.
func TestP10_6Revenue(t *testing.T) {
	for _, c := range []struct {
		revenue, reserve int
		pays             []int
	}{
		{0, 0, list(0, 0)}, {1, 0, list(1, 0)}, {2, 0, list(1, 1)}, {9, 0, list(5, 4)}, {10, 1, list(5, 4)}, {19, 1, list(10, 8)}, {20, 2, list(10, 8)},
		{39, 3, list(21, 15)}, {84000, 8400, list(43200, 32400)}, {84001, 8400, list(43201, 32400)}, {99999, 9999, list(51429, 38571)}, {1000000000000, 100000000000, list(514285714286, 385714285714)},
	} {
		l := told()
		for i, advance := range list(24000, 18000) {
			l[i] = paid(l[i], c.pays[i], advance, 2000, c.pays[i]-advance-2000)
		}
		sameSettle(t, usual(), usualMembers(), usualDeliveries(), c.revenue, l, book(c.revenue, c.reserve, c.revenue-c.reserve, 0, 4000, 100000), 0, api.OK)
	}
}

// TestP10_6Parts has a Reserve, an Advance and a Levy at their bounds, and what is rounded.
func TestP10_6Parts(t *testing.T) {
	for _, c := range []struct {
		reserve, advance, levy int
		kept                   int
		pays, advances, levies []int
	}{
		{0, 5000, 50, 0, list(48000, 36000), list(24000, 18000), list(2000, 2000)}, {10000, 5000, 50, 84000, list(0, 0), list(24000, 18000), list(2000, 2000)}, {9999, 5000, 50, 83991, list(5, 4), list(24000, 18000), list(2000, 2000)}, {1, 5000, 50, 8, list(47995, 35997), list(24000, 18000), list(2000, 2000)},
		{1000, 0, 50, 8400, list(43200, 32400), list(0, 0), list(2000, 2000)}, {1000, 10000, 50, 8400, list(43200, 32400), list(48000, 36000), list(2000, 2000)}, {1000, 1, 50, 8400, list(43200, 32400), list(4, 3), list(2000, 2000)}, {1000, 9999, 50, 8400, list(43200, 32400), list(47995, 35996), list(2000, 2000)},
		{1000, 5000, 0, 8400, list(43200, 32400), list(24000, 18000), list(0, 0)}, {1000, 5000, 1, 8400, list(43200, 32400), list(24000, 18000), list(40, 40)}, {1000, 5000, 1000000, 8400, list(43200, 32400), list(24000, 18000), list(40000000, 40000000)},
	} {
		r := with(func(r *api.PoolRules) { r.Reserve, r.Advance, r.Levy = c.reserve, c.advance, c.levy })
		l := told()
		for i := range l {
			l[i] = paid(l[i], c.pays[i], c.advances[i], c.levies[i], c.pays[i]-c.advances[i]-c.levies[i])
		}
		sameSettle(t, r, usualMembers(), usualDeliveries(), 84000, l, book(84000, c.kept, 84000-c.kept, 0, c.levies[0]+c.levies[1], 100000), 0, api.OK)
	}
}

// TestP10_6Rounded rounds the points of each member before they are paid in advance, and the levy of each member by itself.
func TestP10_6Rounded(t *testing.T) {
	r := with(func(r *api.PoolRules) {
		r.Prices, r.Demand, r.Reserve, r.Advance, r.Levy = list(1), 0, 3333, 9999, 52
	})
	l := members(member(1999, 0), member(999, 0), member(19, 0), member(20, 0))
	given := deliveries(plain(0, 0, 1999), plain(1, 0, 999), plain(2, 0, 19), plain(3, 0, 20))
	want := accounts(
		paid(account(1999, 1999, 0, 0, 0, 1999), 4, 0, 103, -99), paid(account(999, 999, 0, 0, 0, 999), 2, 0, 51, -49),
		paid(account(19, 19, 0, 0, 0, 19), 0, 0, 0, 0), paid(account(20, 20, 0, 0, 0, 20), 0, 0, 1, -1),
	)
	sameSettle(t, r, l, given, 8, want, book(8, 2, 6, 0, 155, 3037), 0, api.OK)
	r.Prices = list(5)
	l, given = members(member(2000, 0)), deliveries(plain(0, 0, 2000))
	sameSettle(t, r, l, given, 3, accounts(paid(account(2000, 2000, 0, 0, 0, 10000), 3, 9, 104, -110)), book(3, 0, 3, 0, 104, 2000), 0, api.OK)
}

// TestP10_6NobodyHasPoints has nothing that is delivered or released, or nothing that has a price.
func TestP10_6NobodyHasPoints(t *testing.T) {
	free := with(func(r *api.PoolRules) { r.Prices, r.Premium, r.Released = list(0, 0), 0, 0 })
	empty := func(n int) []api.PoolAccount { return times(n, api.PoolAccount{}) }
	sameSettle(t, usual(), nil, nil, 84005, nil, book(84005, 8400, 0, 75605, 0, 0), 0, api.OK)
	sameSettle(t, usual(), members(member(7, 0), organic(9, 0)), nil, 84005, empty(2), book(84005, 8400, 0, 75605, 0, 0), 0, api.OK)
	sameSettle(t, usual(), members(member(7, 0)), nil, 0, empty(1), book(0, 0, 0, 0, 0, 0), 0, api.OK)
	sameSettle(t, usual(), nil, nil, 1000000000000, nil, book(1000000000000, 100000000000, 0, 900000000000, 0, 0), 0, api.OK)
	sameSettle(t, needing(0), members(member(7, 5)), nil, 10, accounts(account(0, 0, 0, 0, 5, 0)), book(10, 1, 0, 9, 0, 0), 0, api.OK)
	sameSettle(t, needing(0), members(member(0, 5)), deliveries(plain(0, 0, 4)), 10, accounts(account(4, 0, 0, 0, 9, 0)), book(10, 1, 0, 9, 0, 0), 0, api.OK)
	sameSettle(t, free, members(member(50, 5)), deliveries(green(0, 1, 60)), 10, accounts(paid(account(60, 50, 10, 5, 0, 0), 0, 0, 3, -3)), book(10, 1, 0, 9, 3, 65), 0, api.OK)
	// One point is enough.
	sameSettle(t, usual(), members(member(7, 0), member(0, 1)), nil, 10, accounts(account(0, 0, 0, 0, 0, 0), paid(account(0, 0, 0, 1, 0, 600), 9, 0, 0, 9)), book(10, 1, 9, 0, 0, 1), 0, api.OK)
}

// TestP10_6Released has a levy on what is accepted alone, while all that is sold is told.
func TestP10_6Released(t *testing.T) {
	r := with(func(r *api.PoolRules) { r.Levy, r.Demand = 1000, 18 })
	sameSettle(t, r, members(member(5, 9)), deliveries(plain(0, 0, 8)), 1000, accounts(paid(account(8, 5, 3, 9, 0, 8*900+9*600), 900, 6, 8, 886)), book(1000, 100, 900, 0, 8, 17), 0, api.OK)
	r.Demand = 7
	sameSettle(t, r, members(member(5, 9)), deliveries(plain(0, 0, 8)), 1000, accounts(paid(account(8, 5, 0, 2, 10, 5*900+2*600), 900, 2, 5, 893)), book(1000, 100, 900, 0, 5, 7), 0, api.OK)
}

func TestP10_6Errors(t *testing.T) {
	for _, revenue := range list(-1, 1000000000001, low, high) {
		sameSettle(t, usual(), usualMembers(), usualDeliveries(), revenue, nil, api.PoolBook{}, 0, api.ErrRange)
		sameSettle(t, usual(), nil, nil, revenue, nil, api.PoolBook{}, 0, api.ErrRange)
		sameSettle(t, usual(), usualMembers(), append(usualDeliveries(), plain(2, 0, 1)), revenue, nil, api.PoolBook{}, 3, api.ErrNone)
		sameSettle(t, usual(), usualMembers(), append(usualDeliveries(), plain(1, 0, 0)), revenue, nil, api.PoolBook{}, 3, api.ErrArg)
		sameSettle(t, usual(), usualMembers(), append(usualDeliveries(), plain(1, 0, 100000000)), revenue, nil, api.PoolBook{}, 3, api.ErrOver)
		sameSettle(t, usual(), usualMembers(), times(301, plain(0, 0, 1)), revenue, nil, api.PoolBook{}, 0, api.ErrLong)
		sameSettle(t, usual(), times(31, member(0, 0)), usualDeliveries(), revenue, nil, api.PoolBook{}, 0, api.ErrLong)
		sameSettle(t, needing(-1), usualMembers(), usualDeliveries(), revenue, nil, api.PoolBook{}, 0, api.ErrArg)
	}
}

// TestP10_6AsMuchAsThereCanBe has the greatest numbers of all.
func TestP10_6AsMuchAsThereCanBe(t *testing.T) {
	r := with(func(r *api.PoolRules) {
		r.Prices, r.Premium, r.Released, r.Demand = list(1000000), 1000000, 1000000, 10000000000
		r.Levy, r.Reserve, r.Advance = 1000000, 0, 10000
	})
	var given []api.Delivery
	for i := range 30 {
		given = append(given, green(i, 0, 100000000))
	}
	l := times(30, organic(0, 100000000))
	want, wantBook, _, e := settleOf(r, l, given, 1000000000000)
	sameSettle(t, r, l, given, 1000000000000, want, wantBook, 0, api.OK)
	first := paid(account(100000000, 0, 100000000, 100000000, 0, 300000000000000), 33333333334, 300000000000, 100000000000, 33333333334-400000000000)
	if e != api.OK || want[0] != first || wantBook != book(1000000000000, 0, 1000000000000, 0, 3000000000000, 6000000000) {
		t.Error("by the definition:", want, wantBook, e)
	}
	r.Reserve = 10000
	for i := range want {
		want[i] = paid(want[i], 0, 300000000000, 100000000000, -400000000000)
	}
	sameSettle(t, r, l, given, 1000000000000, want, book(1000000000000, 1000000000000, 0, 0, 3000000000000, 6000000000), 0, api.OK)
}

// TestP10_6Definitions compares any seasons with the definition, and the accounts with those of Accept.
func TestP10_6Definitions(t *testing.T) {
	d := dice()
	below, nobody := 0, 0
	for range 20000 {
		r, l, given := anySeason(d)
		revenue := pick(d, 0, []int{5, 1000, 1000000, api.MaxRevenue}[d.IntN(4)])
		want, wantBook, at, e := settleOf(r, l, given, revenue)
		sameSettle(t, r, l, given, revenue, want, wantBook, at, e)
		if slices.ContainsFunc(want, func(a api.PoolAccount) bool { return a.Final < 0 }) {
			below++
		}
		if wantBook.Rest > 0 {
			nobody++
		}
		accepted, _, _ := pool.Accept(r, l, given)
		for i, a := range want {
			if accepted[i] != paid(a, 0, 0, 0, 0) {
				t.Fatal("Accept tells something else:", r, l, given, accepted[i], a)
			}
		}
	}
	if below < 1000 || nobody < 100 {
		t.Error("too few with a Final below 0, or where nobody has points:", below, nobody)
	}
}
