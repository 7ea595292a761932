package candy_test

import (
	"testing"

	"spile/api"
	"spile/candy"
)

func TestP11_5Examples(t *testing.T) {
	sameProducts(t, usual(), begun(between(8529, 8638), between(200, 250), just(20)), list(0), api.OK)
	behind, _, e := candy.Make(usual(), usualSap(), acts(cook(1190, 1190), cool(200, 250), stir(20, 20)))
	if e != api.OK || behind[2] != begun(between(8638, 8713), between(200, 250), just(20)) {
		t.Fatal("Make", behind, e)
	}
	sameProducts(t, usual(), behind[2], list(-1, 0), api.OK)
}

func TestP11_5Products(t *testing.T) {
	for _, c := range []struct {
		dense, start, stirred api.Range
		want                  []int
	}{
		{between(8400, 8700), between(0, 300), between(15, 60), list(0)}, {just(8400), just(0), just(15), list(0)}, {just(8700), just(300), just(60), list(0)}, {between(8500, 9000), between(600, 1000), between(2, 6), list(1)}, {between(9100, 9600), between(900, 1300), between(5, 20), list(2)},
		{between(0, 10000), between(-2000, 2000), between(0, 1000), list(-1, 0, 1, 2)}, {between(8400, 9600), between(0, 1300), between(2, 60), list(-1, 0, 1, 2)}, {between(8500, 9600), between(600, 1300), between(2, 20), list(-1, 1, 2)}, {between(8400, 8999), between(0, 1300), between(2, 60), list(-1, 0, 1)}, {between(8600, 9600), just(300), between(0, 1000), list(-1, 0)},
		{just(9000), between(900, 1000), between(5, 6), list(1)}, {just(9000), between(900, 1001), between(5, 6), list(1, 2)}, {just(9000), between(899, 1000), between(5, 6), list(1)}, {between(9000, 9001), between(900, 1000), between(5, 6), list(1, 2)}, {just(9000), between(900, 1000), between(5, 7), list(1, 2)}, {just(9000), between(900, 1000), between(4, 6), list(1)}, {between(8999, 9001), between(900, 1000), between(5, 6), list(1, 2)}, {between(8999, 9001), between(899, 1000), between(5, 6), list(-1, 1, 2)}, {just(9000), just(1000), just(6), list(1)}, {just(9001), just(1000), just(6), list(2)}, {just(9000), just(1001), just(6), list(2)}, {just(9000), just(1000), just(7), list(2)}, {just(8999), just(1000), just(7), list(-1)},
		{just(1), just(100), just(20), list(-1)}, {just(8500), just(450), between(0, 1000), list(-1)}, {between(0, 10000), just(301), between(0, 1000), list(-1)}, {between(9601, 10000), between(-2000, 2000), between(0, 1000), list(-1)}, {just(0), just(0), just(0), list(-1)}, {just(-1), just(-3000), just(-1), list(-1)}, {just(20000), just(3000), just(2000), list(-1)},
		{between(-1000000000000000, 1000000000000000), between(-1000000000000000, 1000000000000000), between(-1000000000000000, 1000000000000000), list(-1, 0, 1, 2)}, {just(1000000000000000), just(-1000000000000000), just(1000000000000000), list(-1)}, {just(8600), just(100), between(-1000000000000000, 15), list(-1, 0)}, {between(8600, 1000000000000000), just(100), just(15), list(-1, 0)},
	} {
		x := begun(c.dense, c.start, c.stirred)
		sameProducts(t, usual(), x, c.want, api.OK)
		if truly, e := productsOf(usual(), x, ends); len(truly) != len(c.want) || e != api.OK {
			t.Error("by the definition:", x, truly, e)
		}
		x.Heat = between(7, -7)
		sameProducts(t, usual(), x, c.want, api.OK)
	}
}

// TestP11_5Ends has ranges whose ends just meet those of a product, and go one step beyond it, along each axis.
func TestP11_5Ends(t *testing.T) {
	r := making(product(between(10, 20), between(10, 20), between(10, 20)))
	for _, c := range []struct {
		x    api.Range
		want []int
	}{
		{just(15), list(0)}, {between(10, 20), list(0)}, {between(11, 19), list(0)}, {just(10), list(0)}, {just(20), list(0)}, {between(10, 11), list(0)}, {between(19, 20), list(0)},
		{between(9, 10), list(-1, 0)}, {between(9, 20), list(-1, 0)}, {between(20, 21), list(-1, 0)}, {between(10, 21), list(-1, 0)}, {between(9, 21), list(-1, 0)}, {between(0, 90), list(-1, 0)}, {between(0, 15), list(-1, 0)}, {between(15, 90), list(-1, 0)},
		{just(9), list(-1)}, {just(21), list(-1)}, {between(0, 9), list(-1)}, {between(21, 90), list(-1)},
	} {
		for _, in := range []api.Range{just(15), between(10, 20), just(10), just(20)} {
			sameProducts(t, r, begun(c.x, in, in), c.want, api.OK)
			sameProducts(t, r, begun(in, c.x, in), c.want, api.OK)
			sameProducts(t, r, begun(in, in, c.x), c.want, api.OK)
		}
		for _, out := range []api.Range{just(9), just(21), between(0, 9)} {
			sameProducts(t, r, begun(c.x, out, just(15)), list(-1), api.OK)
			sameProducts(t, r, begun(c.x, just(15), out), list(-1), api.OK)
			sameProducts(t, r, begun(out, c.x, just(15)), list(-1), api.OK)
			sameProducts(t, r, begun(just(15), c.x, out), list(-1), api.OK)
			sameProducts(t, r, begun(out, just(15), c.x), list(-1), api.OK)
			sameProducts(t, r, begun(just(15), out, c.x), list(-1), api.OK)
		}
	}
	for _, corner := range []api.Range{between(0, 10), between(20, 30)} {
		sameProducts(t, r, begun(corner, corner, corner), list(-1, 0), api.OK)
		sameProducts(t, r, begun(corner, corner, just(15)), list(-1, 0), api.OK)
	}
}

// TestP11_5Beside has products beside each other, and behind each other, of which some are hidden.
func TestP11_5Beside(t *testing.T) {
	in := between(10, 20)
	along := func(l ...api.Range) []api.Product {
		var all []api.Product
		for _, x := range l {
			all = append(all, product(x, in, in))
		}
		return all
	}
	for _, c := range []struct {
		l    []api.Product
		x    api.Range
		want []int
	}{
		{along(between(10, 14), between(15, 20)), in, list(0, 1)}, {along(between(10, 14), between(16, 20)), in, list(-1, 0, 1)}, {along(between(15, 20), between(10, 14)), in, list(0, 1)}, {along(between(10, 14), between(15, 20)), just(14), list(0)}, {along(between(10, 14), between(15, 20)), just(15), list(1)}, {along(between(10, 14), between(16, 20)), just(15), list(-1)}, {along(between(10, 14), between(16, 20)), between(14, 15), list(-1, 0)}, {along(between(10, 14), between(16, 20)), between(15, 16), list(-1, 1)},
		{along(between(10, 20), between(10, 20)), in, list(0)}, {along(between(10, 20), between(12, 18)), between(5, 25), list(-1, 0)}, {along(between(12, 18), between(10, 20)), in, list(0, 1)}, {along(between(12, 18), between(10, 20)), between(12, 18), list(0)}, {along(between(10, 15), between(15, 20), between(12, 18)), in, list(0, 1)}, {along(between(10, 14), between(16, 20), between(12, 18)), in, list(0, 1, 2)}, {along(between(10, 14), between(16, 20), between(15, 15)), in, list(0, 1, 2)}, {along(between(16, 20), between(10, 14), between(1, 9)), between(9, 15), list(-1, 1, 2)},
		{along(just(10), just(11), just(12), just(13), just(14), just(15), just(16), just(17)), between(10, 17), list(0, 1, 2, 3, 4, 5, 6, 7)}, {along(just(17), just(16), just(15), just(14), just(13), just(12), just(11), just(10)), between(10, 18), list(-1, 0, 1, 2, 3, 4, 5, 6, 7)}, {along(just(17), just(16), just(15), just(14), just(13), just(12), just(11), just(10)), between(12, 14), list(3, 4, 5)}, {times(8, product(in, in, in)), in, list(0)},
	} {
		sameProducts(t, making(c.l...), begun(c.x, in, in), c.want, api.OK)
		for i, p := range c.l {
			c.l[i] = product(p.Start, p.Dense, p.Stirred)
		}
		sameProducts(t, making(c.l...), begun(in, c.x, in), c.want, api.OK)
		for i, p := range c.l {
			c.l[i] = product(p.Dense, p.Stirred, p.Start)
		}
		sameProducts(t, making(c.l...), begun(in, in, c.x), c.want, api.OK)
	}
}

// TestP11_5Seed has just the seed of a product, and one gram less.
func TestP11_5Seed(t *testing.T) {
	in, all := between(10, 20), begun(just(15), just(15), just(15))
	p := func(seed int) api.Product { return more(product(in, in, in), seed, 0) }
	for _, c := range []struct {
		seeds []int
		seed  int
		want  []int
	}{
		{list(5), 5, list(0)}, {list(5), 4, list(-1)}, {list(5), 6, list(0)}, {list(5), 0, list(-1)}, {list(0), 0, list(0)}, {list(0), -1, list(-1)}, {list(0), low, list(-1)}, {list(0), high, list(0)}, {list(1000000), 1000000, list(0)}, {list(1000000), 999999, list(-1)}, {list(1000000), high, list(0)},
		{list(5, 4, 3), 5, list(0)}, {list(5, 4, 3), 4, list(1)}, {list(5, 4, 3), 3, list(2)}, {list(5, 4, 3), 2, list(-1)}, {list(3, 4, 5), 5, list(0)}, {list(3, 5, 4), 3, list(0)}, {list(5, 3, 4), 4, list(1)},
	} {
		var l []api.Product
		for _, n := range c.seeds {
			l = append(l, p(n))
		}
		sameProducts(t, making(l...), seeded(all, c.seed), c.want, api.OK)
	}
	hidden := making(more(product(between(10, 15), in, in), 5, 0), product(in, in, in))
	sameProducts(t, hidden, seeded(begun(in, in, in), 5), list(0, 1), api.OK)
	sameProducts(t, hidden, seeded(begun(in, in, in), 4), list(1), api.OK)
}

func TestP11_5Errors(t *testing.T) {
	far := 1000000000000000
	x := begun(just(8500), just(100), just(20))
	for _, wrong := range wrongRanges(-far, far) {
		for _, change := range []func(x *api.CandyState){
			func(x *api.CandyState) { x.Dense = wrong }, func(x *api.CandyState) { x.Start = wrong }, func(x *api.CandyState) { x.Stirred = wrong }, func(x *api.CandyState) { x.Dense, x.Start, x.Stirred = wrong, wrong, wrong },
		} {
			for _, begun := range []bool{false, true} {
				bad := x
				change(&bad)
				bad.Begun = begun
				sameProducts(t, usual(), bad, nil, api.ErrArg)
			}
		}
	}
	sameProducts(t, usual(), api.CandyState{}, nil, api.ErrState)
	sameProducts(t, usual(), standing(between(8529, 8638), between(200, 250)), nil, api.ErrState)
	x.Begun = false
	sameProducts(t, usual(), x, nil, api.ErrState)
	x.Heat, x.Seed = between(high, low), low
	sameProducts(t, usual(), x, nil, api.ErrState)
	x.Begun = true
	sameProducts(t, usual(), x, list(-1), api.OK)
	x.Seed = 0
	sameProducts(t, usual(), x, list(0), api.OK)
}

// TestP11_5Definitions looks at all truths of any states.
func TestP11_5Definitions(t *testing.T) {
	d := dice()
	seen, lengths := map[int]int{}, map[int]int{}
	for range 20000 {
		r, x := anyRules(d), anyState(d)
		want, e := productsOf(r, x, each)
		sameProducts(t, r, x, want, e)
		if fewer, _ := productsOf(r, x, ends); len(fewer) != len(want) {
			t.Fatal("by the ends alone:", r, x, fewer, want)
		}
		lengths[len(want)]++
		for _, n := range want {
			seen[n]++
		}
	}
	for n := -1; n < 8; n++ {
		if seen[n] < 50 {
			t.Error("too few of the product", n, seen)
		}
	}
	if lengths[1] < 1000 || lengths[2] < 1000 || lengths[3] < 1000 || lengths[4] < 100 {
		t.Error("too few of a length:", lengths)
	}
}

// TestP11_5AsManyAsThereCanBe compares great ranges with the definition by their ends.
func TestP11_5AsManyAsThereCanBe(t *testing.T) {
	d := dice()
	for range 30 {
		var l []api.Product
		for range 8 {
			l = append(l, more(product(anyRange(d, 1, 10000), anyRange(d, -2000, 2000), anyRange(d, 0, 1000)), d.IntN(3), 0))
		}
		x := seeded(begun(anyRange(d, 0, 10000), anyRange(d, -2000, 2000), anyRange(d, 0, 1000)), d.IntN(3))
		want, e := productsOf(making(l...), x, ends)
		sameProducts(t, making(l...), x, want, e)
	}
}

func TestP11_6Yield(t *testing.T) {
	million := 1000000000000
	for _, c := range []struct {
		s     api.Sap
		dense api.Range
		seed  int
		want  api.Range
	}{
		{usualSap(), between(8529, 8638), 0, between(4630, 4689)}, {usualSap(), between(8529, 8638), 7, between(4637, 4696)}, {usualSap(), between(8529, 8638), 1000000, between(1004630, 1004689)}, {usualSap(), just(8529), 0, just(4689)}, {usualSap(), just(8638), 1, just(4631)}, {usualSap(), just(10000), 0, just(4000)}, {usualSap(), just(9999), 0, just(4000)}, {usualSap(), just(9997), 0, just(4001)}, {usualSap(), just(1), 0, just(6000)}, {usualSap(), between(1, 10000), 0, between(4000, 6000)}, {usualSap(), between(1, 10000), 5, between(4005, 6005)},
		{usualSap(), just(6666), 0, just(6000)}, {usualSap(), just(6667), 0, just(5999)}, {usualSap(), between(6666, 6667), 0, between(5999, 6000)}, {sap(1, 1), just(5000), 0, just(2)}, {sap(1, 1), just(5001), 0, just(1)}, {sap(1, 1), just(4999), 0, just(2)}, {sap(1, 1), between(5000, 5001), 3, between(4, 5)},
		{sap(0, 5), just(10000), 0, just(5)}, {sap(0, 5), just(1), 0, just(5)}, {sap(0, 1), between(1, 10000), 1000000, just(1000001)}, {sap(million, 1), just(1), 0, just(10000)}, {sap(million, 1), just(2), 0, just(5000)}, {sap(million, 1), just(10000), 0, just(1)}, {sap(million, million), just(1), 0, just(2 * million)}, {sap(million, million), just(10000), 1000000, just(million + 1000000)}, {sap(million, million), between(5000, 8000), 0, between(1250000000000, 2*million)},
	} {
		for _, x := range states(seeded(begun(c.dense, just(1), just(1)), c.seed), seeded(standing(c.dense, between(5, 4)), c.seed), seeded(begun(c.dense, between(high, low), between(0, -1)), c.seed)) {
			sameYield(t, c.s, x, c.want, api.OK)
		}
		if truly, e := yieldOf(c.s, seeded(standing(c.dense, just(0)), c.seed)); truly != c.want || e != api.OK {
			t.Error("by the definition:", c.s, c.dense, c.seed, truly, e)
		}
	}
}

func TestP11_6Errors(t *testing.T) {
	right := standing(just(8000), just(0))
	for _, s := range wrongSaps() {
		sameYield(t, s, right, api.Range{}, api.ErrArg)
	}
	for _, s := range []api.Sap{sap(0, 0), sap(5, 0), sap(1000000000000, 0)} {
		sameYield(t, s, right, api.Range{}, api.ErrNone)
		sameYield(t, s, seeded(right, 1000000), api.Range{}, api.ErrNone)
		for _, wrong := range wrongRanges(1, 10000) {
			sameYield(t, s, standing(wrong, just(0)), api.Range{}, api.ErrArg)
			sameYield(t, usualSap(), standing(wrong, just(0)), api.Range{}, api.ErrArg)
		}
		for _, n := range list(-1, 1000001, low, high) {
			sameYield(t, s, seeded(right, n), api.Range{}, api.ErrArg)
			sameYield(t, usualSap(), seeded(right, n), api.Range{}, api.ErrArg)
		}
	}
	sameYield(t, usualSap(), api.CandyState{}, api.Range{}, api.ErrArg)
}

// TestP11_6Definitions looks at how much water must stay, gram by gram.
func TestP11_6Definitions(t *testing.T) {
	d := dice()
	for range 3000 {
		most := []int{5, 60}[d.IntN(2)]
		s, x := sap(pick(d, 0, most), pick(d, 1, most)), seeded(standing(anyRange(d, 1, 10000), just(0)), pick(d, 0, 9))
		mass := func(brix int) int {
			off := 0
			for off < s.Water && s.Sugar*10000 < brix*(s.Water+s.Sugar-off) {
				off++
			}
			return s.Water + s.Sugar - off + x.Seed
		}
		want := between(mass(x.Dense.High), mass(x.Dense.Low))
		sameYield(t, s, x, want, api.OK)
		if truly, e := yieldOf(s, x); truly != want || e != api.OK {
			t.Fatal("by the definition:", s, x, truly, e)
		}
	}
	for range 3000 {
		s, x := sap(pick(d, 0, 1000000000000), pick(d, 0, 1000000000000)), seeded(standing(anyRange(d, 1, 10000), just(0)), pick(d, 0, 1000000))
		want, e := yieldOf(s, x)
		sameYield(t, s, x, want, e)
	}
}
