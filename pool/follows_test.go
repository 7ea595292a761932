package pool_test

import (
	"slices"
	"testing"

	"spile/api"
	"spile/pool"
)

// settle returns what Settle returns, where there is no error.
func settle(t *testing.T, r api.PoolRules, l []api.Member, given []api.Delivery, revenue int) ([]api.PoolAccount, api.PoolBook) {
	t.Helper()
	told, b, _, e := pool.Settle(r, l, given, revenue)
	if e != api.OK || len(told) != len(l) {
		t.Fatal("Settle", r, l, given, revenue, told, b, e)
	}
	return told, b
}

// TestP10_9NoGramLost looks at the grams of each member, and of all of them.
func TestP10_9NoGramLost(t *testing.T) {
	d := dice()
	more, admits := 0, 0
	for range 20000 {
		r, l, given := anySeason(d)
		told, b := settle(t, r, l, given, pick(d, 0, 1000000))
		delivered := make([]int, len(l))
		for _, x := range given {
			delivered[x.Member] += x.Mass
		}
		var in, admitted, released, before int
		for i, a := range told {
			if a.Delivered != delivered[i] || a.Delivered+l[i].Stored != a.In+a.Admitted+a.Released+a.Stored {
				t.Fatal("grams are lost:", r, l, given, a)
			}
			if min(a.In, a.Admitted, a.Released, a.Stored) < 0 || a.In > l[i].Quota || a.Admitted > a.Delivered-a.In || a.Released > l[i].Stored {
				t.Fatal("more than there is:", r, l, given, a)
			}
			in, admitted, released, before = in+a.In, admitted+a.Admitted, released+a.Released, before+l[i].Stored
		}
		if b.Sold != in+admitted+released || b.Sold > r.Demand && b.Sold > in {
			t.Fatal("more is sold than is needed:", r, l, given, b)
		}
		if in > r.Demand {
			more++
		}
		if admitted > 0 {
			admits++
			if released != before {
				t.Fatal("something is left in the store:", r, l, given, told)
			}
		}
	}
	if more < 1000 || admits < 1000 {
		t.Error("too few where more than enough is accepted, or something is admitted:", more, admits)
	}
}

// cut cuts one of some deliveries into two, if it has two grams or more.
func cut(given []api.Delivery, pick func(a, b int) int) []api.Delivery {
	i := pick(0, len(given)-1)
	if given[i].Mass < 2 {
		return given
	}
	l := slices.Clone(given)
	other := l[i]
	other.Mass = pick(1, other.Mass-1)
	l[i].Mass -= other.Mass
	return slices.Insert(l, pick(0, len(l)), other)
}

// TestP10_10NoOtherOrder has deliveries in other orders, and some that are cut.
func TestP10_10NoOtherOrder(t *testing.T) {
	d := dice()
	for range 3000 {
		r, l, given := anySeason(d)
		if len(given) == 0 {
			continue
		}
		revenue := pick(d, 0, 1000000)
		told, b := settle(t, r, l, given, revenue)
		accepted, _, _ := pool.Accept(r, l, given)
		for range 5 {
			other := slices.Clone(given)
			d.Shuffle(len(other), func(i, j int) { other[i], other[j] = other[j], other[i] })
			for range pick(d, 0, 3) {
				other = cut(other, func(a, b int) int { return pick(d, a, b) })
			}
			sameSettle(t, r, l, other, revenue, told, b, 0, api.OK)
			sameAccept(t, r, l, other, accepted, 0, api.OK)
			years := [][]api.PoolAccount{told}
			sameYears(t, r, l, seasons(season(r.Demand, revenue, other...)), years, yeared{books: []api.PoolBook{b}}, api.OK)
		}
	}
}

// eachOrder calls for each order of deliveries.
func eachOrder(begin, rest []api.Delivery, call func([]api.Delivery)) {
	if len(rest) == 0 {
		call(begin)
	}
	for i, x := range rest {
		eachOrder(append(slices.Clone(begin), x), slices.Delete(slices.Clone(rest), i, i+1), call)
	}
}

// TestP10_10AllOrders has the chapter's deliveries in all orders, each of them cut in some ways.
func TestP10_10AllOrders(t *testing.T) {
	want, b := settle(t, usual(), usualMembers(), usualDeliveries(), 84000)
	for i, x := range usualDeliveries() {
		for _, mass := range list(0, 1, 15000, x.Mass-1) {
			given := usualDeliveries()
			if mass > 0 {
				given[i].Mass -= mass
				other := x
				other.Mass = mass
				given = append(given, other)
			}
			eachOrder(nil, given, func(l []api.Delivery) {
				sameSettle(t, usual(), usualMembers(), l, 84000, want, b, 0, api.OK)
			})
		}
	}
}

// TestP10_11Balanced looks at coins, and at a greater revenue.
func TestP10_11Balanced(t *testing.T) {
	d := dice()
	less := 0
	for range 20000 {
		r, l, given := anySeason(d)
		revenue := pick(d, 0, []int{20, 1000, 1000000, 900000000000}[d.IntN(4)])
		told, b := settle(t, r, l, given, revenue)
		pays, levies := 0, 0
		for _, a := range told {
			if a.Pay-a.Advance-a.Levy != a.Final || min(a.Pay, a.Advance, a.Levy, a.Points) < 0 {
				t.Fatal("it is not balanced:", r, l, given, revenue, a)
			}
			pays, levies = pays+a.Pay, levies+a.Levy
		}
		if b.Revenue != revenue || b.Reserve+b.Paid+b.Rest != revenue || b.Paid != pays || b.Levies != levies || min(b.Reserve, b.Rest) < 0 {
			t.Fatal("the book is not balanced:", r, l, given, revenue, b)
		}
		more := revenue + pick(d, 1, []int{1, 3, 1000000, 100000000000}[d.IntN(4)])
		greater, _ := settle(t, r, l, given, more)
		for i, a := range told {
			if greater[i].Pay < a.Pay {
				less++
			}
			if greater[i].Pay < a.Pay-1 {
				t.Fatal("with a greater revenue less is paid:", r, l, given, revenue, more, a, greater[i])
			}
		}
	}
	if less == 0 {
		t.Error("nobody is paid a coin less")
	}
}

// TestP10Examples has those of the chapter, and that of the document.
func TestP10Examples(t *testing.T) {
	sameAccept(t, usual(), usualMembers(), usualDeliveries(), told(), 0, api.OK)
	l := told()
	l[0], l[1] = paid(l[0], 43200, 24000, 2000, 17200), paid(l[1], 32400, 18000, 2000, 12400)
	sameSettle(t, usual(), usualMembers(), usualDeliveries(), 84000, l, book(84000, 8400, 75600, 0, 4000, 100000), 0, api.OK)
	samePortions(t, 10, list(1, 1, 1), list(4, 3, 3), api.OK)
	samePortions(t, 75600, list(48000000, 36000000), list(43200, 32400), api.OK)
	r := usual().Organic
	samePractice(t, r, api.Practice{Trees: 100, Taps: 201}, 1, api.OK)
	samePractice(t, r, api.Practice{Trees: 100, Taps: 200, Others: 19}, 2, api.OK)
	samePractice(t, r, api.Practice{Trees: 100, Taps: 200, Others: 20, Oils: 3}, 3, api.OK)
}
