package candy_test

import (
	"testing"

	"spile/api"
)

// worked returns rules whose products have this greatest density and this work: dense, work, dense, work ..
func worked(l ...int) api.CandyRules {
	var all []api.Product
	for i := 0; i+1 < len(l); i += 2 {
		all = append(all, more(product(between(1, l[i]), just(0), just(0)), 0, l[i+1]))
	}
	return making(all...)
}

func TestP11_7Needs(t *testing.T) {
	great := 1000000000
	for _, c := range []struct {
		r           api.CandyRules
		o           api.CandyOrder
		sugar, work int
	}{
		{usual(), order(0, 1000, 0), 870, 90}, {usual(), order(0, 1000, great), 870, 90}, {usual(), order(1, 1000, 5), 900, 60}, {usual(), order(2, 1000, 5), 960, 40},
		{usual(), order(0, 1, 5), 1, 1}, {usual(), order(0, 2, 5), 2, 1}, {usual(), order(0, 100, 5), 87, 9}, {usual(), order(0, 99, 5), 87, 9}, {usual(), order(0, 101, 5), 88, 10}, {usual(), order(1, 50, 5), 45, 3}, {usual(), order(1, 51, 5), 46, 4}, {usual(), order(1, 10, 5), 9, 1}, {usual(), order(2, 25, 5), 24, 1}, {usual(), order(2, 26, 5), 25, 2}, {usual(), order(0, great, 5), 870000000, 90000000}, {usual(), order(0, great-1, 5), 870000000, 90000000}, {usual(), order(2, great, great), 960000000, 40000000},
		{worked(1, 0), order(0, 1, 5), 1, 0}, {worked(1, 0), order(0, 10000, 5), 1, 0}, {worked(1, 0), order(0, 10001, 5), 2, 0}, {worked(1, 0), order(0, great, 5), 100000, 0}, {worked(10000, 1), order(0, 1, 5), 1, 1}, {worked(10000, 1), order(0, 1000, 5), 1000, 1}, {worked(10000, 1), order(0, 1001, 5), 1001, 2}, {worked(10000, 100000), order(0, great, 5), great, 100000000000}, {worked(10000, 100000), order(0, 1, 5), 1, 100}, {worked(9999, 99999), order(0, 3, 5), 3, 300}, {worked(9999, 99999), order(0, great, 5), 999900000, 99999000000},
		{worked(1, 1, 2, 2, 3, 3, 4, 4, 5, 5, 6, 6, 7, 7, 10000, 1000), order(7, 33, 5), 33, 33}, {worked(1, 1, 2, 2, 3, 3, 4, 4, 5, 5, 6, 6, 7, 7, 10000, 1000), order(6, 10000, 5), 7, 70},
	} {
		sameNeeds(t, c.r, c.o, c.sugar, c.work, api.OK)
		if sugar, work, e := needsOf(c.r, c.o); sugar != c.sugar || work != c.work || e != api.OK {
			t.Error("by the definition:", c.r, c.o, sugar, work, e)
		}
	}
}

// wrongOrders are orders of the usual rules that are not valid.
func wrongOrders() []api.CandyOrder {
	return orders(
		order(-1, 5, 5), order(3, 5, 5), order(8, 5, 5), order(low, 5, 5), order(high, 5, 5), order(0, 0, 5), order(0, -1, 5), order(0, 1000000001, 5), order(0, low, 5), order(0, high, 5),
		order(0, 5, -1), order(0, 5, 1000000001), order(0, 5, low), order(0, 5, high), api.CandyOrder{}, order(9, 0, -1),
	)
}

func TestP11_7Errors(t *testing.T) {
	for _, o := range wrongOrders() {
		sameNeeds(t, usual(), o, 0, 0, api.ErrArg)
		sameNeeds(t, api.CandyRules{}, o, 0, 0, api.ErrArg)
		for _, l := range [][]api.CandyOrder{orders(o), orders(o, order(0, 5, 5)), orders(order(0, 5, 5), o), append(times(13, order(0, 5, 5)), o)} {
			sameBest(t, usual(), l, 1000, 1000, nil, 0, api.ErrArg)
			sameBest(t, usual(), l, -1, -1, nil, 0, api.ErrArg)
			sameBest(t, usual(), l, 0, 0, nil, 0, api.ErrArg)
		}
	}
	sameNeeds(t, api.CandyRules{}, order(0, 5, 5), 0, 0, api.ErrArg)
	sameNeeds(t, usual(), order(2, 1, 0), 1, 1, api.OK)
	sameNeeds(t, worked(1, 1), order(1, 1, 0), 0, 0, api.ErrArg)
}

func TestP11_7Definitions(t *testing.T) {
	d := dice()
	for range 20000 {
		r := worked(pick(d, 1, 10000), pick(d, 0, 100000), pick(d, 1, 10000), pick(d, 0, 9))
		most := []int{3, 100000, 1000000002}[d.IntN(3)]
		o := order(pick(d, -1, 2), pick(d, 0, most), pick(d, -1, most))
		sugar, work, e := needsOf(r, o)
		sameNeeds(t, r, o, sugar, work, e)
	}
}

// three are orders of which the first one needs 870 grams and 90 minutes, the second one 900 and 60, and the third one 960 and 40.
func three(prices ...int) []api.CandyOrder {
	return orders(order(0, 1000, prices[0]), order(1, 1000, prices[1]), order(2, 1000, prices[2]))
}

// TestP11_8JustEnough has sugar and work that are just enough, and one less.
func TestP11_8JustEnough(t *testing.T) {
	great := 1000000000000
	for _, c := range []struct {
		sugar, work int
		want        []int
		pay         int
	}{
		{2730, 190, list(0, 1, 2), 230}, {2729, 190, list(0, 1), 180}, {2730, 189, list(0, 1), 180}, {great, high, list(0, 1, 2), 230}, {1770, 150, list(0, 1), 180}, {1769, 190, list(0), 100}, {2730, 149, list(0, 2), 150}, {2730, 130, list(0, 2), 150}, {1830, 149, list(0, 2), 150}, {1829, 149, list(0), 100}, {2730, 129, list(1, 2), 130}, {1860, 100, list(1, 2), 130}, {1859, 100, list(0), 100}, {2730, 99, list(0), 100},
		{870, 90, list(0), 100}, {869, 190, nil, 0}, {870, 89, nil, 0}, {900, 89, list(1), 80}, {899, 89, nil, 0}, {2730, 60, list(1), 80}, {2730, 59, list(2), 50}, {2730, 40, list(2), 50}, {2730, 39, nil, 0}, {960, 59, list(2), 50}, {959, 59, nil, 0}, {0, 0, nil, 0}, {0, high, nil, 0}, {great, 0, nil, 0}, {1, 1, nil, 0},
	} {
		sameBest(t, usual(), three(100, 80, 50), c.sugar, c.work, c.want, c.pay, api.OK)
		sameBest(t, usual(), nil, c.sugar, c.work, nil, 0, api.OK)
		if best, pay, e := bestOf(usual(), three(100, 80, 50), c.sugar, c.work); len(best) != len(c.want) || pay != c.pay || e != api.OK {
			t.Error("by the definition:", c.sugar, c.work, best, pay, e)
		}
	}
}

// TestP11_8Smallest has several best lists, of which the smallest one is asked.
func TestP11_8Smallest(t *testing.T) {
	one := worked(10000, 1000)
	o := func(mass, price int) api.CandyOrder { return order(0, mass, price) }
	for _, c := range []struct {
		l     []api.CandyOrder
		sugar int
		want  []int
		pay   int
	}{
		{orders(o(5, 7), o(5, 7)), 5, list(0), 7}, {orders(o(5, 7), o(5, 7), o(5, 7)), 10, list(0, 1), 14}, {orders(o(5, 6), o(5, 7), o(5, 7)), 10, list(1, 2), 14}, {orders(o(5, 7), o(5, 6), o(5, 7), o(5, 7)), 10, list(0, 2), 14}, {orders(o(5, 7), o(5, 6), o(5, 6)), 10, list(0, 1), 13}, {orders(o(5, 6), o(5, 6), o(5, 7)), 10, list(0, 2), 13},
		{orders(o(9, 10), o(4, 5), o(5, 5)), 9, list(0), 10}, {orders(o(4, 5), o(5, 5), o(9, 10)), 9, list(0, 1), 10}, {orders(o(4, 5), o(9, 10), o(5, 5)), 9, list(0, 2), 10}, {orders(o(4, 4), o(9, 10), o(5, 5)), 9, list(1), 10}, {orders(o(3, 3), o(3, 3), o(3, 3), o(9, 9)), 9, list(0, 1, 2), 9}, {orders(o(9, 9), o(3, 3), o(3, 3), o(3, 3)), 9, list(0), 9}, {orders(o(6, 6), o(3, 3), o(9, 9), o(3, 3)), 9, list(0, 1), 9}, {orders(o(3, 3), o(9, 9), o(6, 6)), 9, list(0, 2), 9},
		{orders(o(5, 0)), 5, nil, 0}, {orders(o(5, 0), o(5, 0)), 10, nil, 0}, {orders(o(5, 7), o(5, 0)), 10, list(0), 7}, {orders(o(5, 0), o(5, 7)), 10, list(0, 1), 7}, {orders(o(5, 0), o(5, 7)), 9, list(1), 7}, {orders(o(5, 0), o(5, 7), o(1, 0)), 10, list(0, 1), 7}, {orders(o(6, 0), o(5, 7), o(5, 0)), 10, list(1), 7}, {orders(o(1, 0), o(1, 0), o(1, 5)), 2, list(0, 2), 5}, {orders(o(1, 0), o(1, 0), o(1, 5)), 3, list(0, 1, 2), 5}, {orders(o(1, 0), o(1, 5), o(1, 0), o(1, 5)), 3, list(0, 1, 3), 10}, {orders(o(1, 0), o(1, 5), o(1, 0), o(1, 5)), 4, list(0, 1, 2, 3), 10},
		{orders(o(9, 1), o(9, 2)), 8, nil, 0}, {orders(o(9, 1), o(1, 1), o(9, 2)), 8, list(1), 1}, {times(14, o(1, 1)), 5, list(0, 1, 2, 3, 4), 5}, {times(14, o(1, 0)), 14, nil, 0}, {append(times(13, o(1, 0)), o(1, 1)), 14, list(0, 1, 2, 3, 4, 5, 6, 7, 8, 9, 10, 11, 12, 13), 1}, {append(times(13, o(1, 0)), o(1, 1)), 13, list(0, 1, 2, 3, 4, 5, 6, 7, 8, 9, 10, 11, 13), 1}, {append(times(13, o(1, 0)), o(1, 1)), 1, list(13), 1},
	} {
		sameBest(t, one, c.l, c.sugar, 1000000, c.want, c.pay, api.OK)
		// It is the same if the work is what is scarce.
		sameBest(t, one, c.l, 1000000, c.sugar, c.want, c.pay, api.OK)
	}
}

// TestP11_8Free has orders that need no work, and as much as there can be.
func TestP11_8Free(t *testing.T) {
	great := 1000000000
	free := worked(10000, 0, 10000, 100000)
	l := orders(order(0, great, great), order(1, 1, great), order(0, 5, 1))
	sameBest(t, free, l, 1000000000000, 0, list(0, 2), great+1, api.OK)
	sameBest(t, free, l, great+4, 99, list(0), great, api.OK)
	sameBest(t, free, l, great+4, 100, list(0, 1), 2*great, api.OK)
	all := times(14, order(1, great, great))
	sameBest(t, free, all, 14*great, 1400000000000, list(0, 1, 2, 3, 4, 5, 6, 7, 8, 9, 10, 11, 12, 13), 14*great, api.OK)
	sameBest(t, free, all, 14*great-1, 1400000000000, list(0, 1, 2, 3, 4, 5, 6, 7, 8, 9, 10, 11, 12), 13*great, api.OK)
	sameBest(t, free, all, 14*great, 1399999999999, list(0, 1, 2, 3, 4, 5, 6, 7, 8, 9, 10, 11, 12), 13*great, api.OK)
	sameBest(t, free, all, 14*great, high, list(0, 1, 2, 3, 4, 5, 6, 7, 8, 9, 10, 11, 12, 13), 14*great, api.OK)
}

// TestP11_8Errors has several errors at once: the one named first is returned.
func TestP11_8Errors(t *testing.T) {
	fine, bad := order(0, 5, 5), order(0, 0, 5)
	for _, c := range []struct {
		r           api.CandyRules
		l           []api.CandyOrder
		sugar, work int
		want        api.Errno
	}{
		{api.CandyRules{}, times(15, bad), -1, -1, api.ErrArg}, {api.CandyRules{}, nil, 1, 1, api.ErrArg}, {usual(), times(15, bad), -1, -1, api.ErrLong}, {usual(), times(15, fine), 100, 100, api.ErrLong}, {usual(), times(15, fine), 0, 0, api.ErrLong}, {usual(), times(100000, fine), 100, 100, api.ErrLong}, {usual(), times(14, bad), -1, -1, api.ErrArg}, {usual(), orders(fine, bad), 100, 100, api.ErrArg},
		{usual(), nil, -1, 0, api.ErrRange}, {usual(), nil, 0, -1, api.ErrRange}, {usual(), nil, -1, -1, api.ErrRange}, {usual(), nil, 1000000000001, 0, api.ErrRange}, {usual(), nil, low, 0, api.ErrRange}, {usual(), nil, high, 0, api.ErrRange}, {usual(), nil, 0, low, api.ErrRange}, {usual(), times(14, fine), -1, 5, api.ErrRange}, {usual(), times(14, fine), 5, -1, api.ErrRange}, {usual(), times(14, fine), 1000000000001, 5, api.ErrRange},
	} {
		sameBest(t, c.r, c.l, c.sugar, c.work, nil, 0, c.want)
	}
	sameBest(t, usual(), nil, 1000000000000, high, nil, 0, api.OK)
	sameBest(t, usual(), orders(fine), 0, 0, nil, 0, api.OK)
	sameBest(t, usual(), times(14, fine), 70, 14, list(0, 1, 2, 3, 4, 5, 6, 7, 8, 9, 10, 11, 12, 13), 70, api.OK)
}

// TestP11_8Definitions looks at all sets of any orders.
func TestP11_8Definitions(t *testing.T) {
	d := dice()
	lengths := map[int]int{}
	for i := range 4000 {
		n := pick(d, 0, 7)
		if i%40 == 0 {
			n = pick(d, 8, 14)
		}
		r := anyRules(d)
		l := anyOrders(d, r, n)
		all, minutes := 0, 0
		for _, o := range l {
			sugar, work, _ := needsOf(r, o)
			all, minutes = all+sugar, minutes+work
		}
		sugar, work := pick(d, 0, all+1), pick(d, 0, minutes+1)
		want, pay, e := bestOf(r, l, sugar, work)
		sameBest(t, r, l, sugar, work, want, pay, e)
		lengths[len(want)]++
	}
	if lengths[0] < 100 || lengths[1] < 100 || lengths[2] < 100 || lengths[3] < 100 {
		t.Error("too few of a length:", lengths)
	}
}
