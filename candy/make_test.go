package candy_test

import (
	"testing"

	"spile/api"
	"spile/candy"
)

func TestP11_4Example(t *testing.T) {
	cooked, cooled := standing(between(8529, 8638), just(1180)), standing(between(8529, 8638), between(200, 250))
	stirred := begun(between(8529, 8638), between(200, 250), just(20))
	sameMake(t, usual(), usualSap(), acts(cook(1180, 1180), cool(200, 250), stir(20, 20)), states(cooked, cooled, stirred), 0, api.OK)
}

func TestP11_4NoActs(t *testing.T) {
	sameMake(t, usual(), usualSap(), nil, nil, 0, api.OK)
	sameMake(t, usual(), sap(0, 1), acts(), states(), 0, api.OK)
}

// at returns a state of the usual sap in which nothing is done, but for the heat.
func at(heat api.Range) api.CandyState { return standing(between(6666, 6667), heat) }

// TestP11_4First has each kind of act at first.
func TestP11_4First(t *testing.T) {
	for _, c := range []struct {
		a    api.CandyAct
		want api.CandyState
		e    api.Errno
	}{
		{cook(1180, 1180), standing(between(8529, 8638), just(1180)), api.OK}, {cook(1180, 1190), standing(between(8529, 8713), between(1180, 1190)), api.OK}, {cook(1040, 1040), standing(between(6666, 6672), just(1040)), api.OK}, {cook(1000, 1000), at(just(1000)), api.OK}, {cook(-2000, 0), at(between(-2000, 0)), api.OK}, {cook(0, 1180), standing(between(6666, 8638), between(0, 1180)), api.OK}, {cook(1295, 1295), standing(between(9425, 9500), just(1295)), api.OK}, {cook(0, 0), at(just(0)), api.OK},
		{cook(1296, 1296), api.CandyState{}, api.ErrNone}, {cook(1180, 1296), api.CandyState{}, api.ErrNone}, {cook(2001, 2001), api.CandyState{}, api.ErrArg}, {cook(-2001, 0), api.CandyState{}, api.ErrArg}, {cook(1180, 1179), api.CandyState{}, api.ErrArg}, {cook(low, high), api.CandyState{}, api.ErrArg}, {cook(high, low), api.CandyState{}, api.ErrArg},
		{cool(0, 0), at(just(0)), api.OK}, {cool(-5, 0), at(between(-5, 0)), api.OK}, {cool(-5, -5), at(just(-5)), api.OK}, {cool(-2000, -2000), at(just(-2000)), api.OK}, {cool(-2000, 0), at(between(-2000, 0)), api.OK},
		{cool(0, 1), api.CandyState{}, api.ErrRange}, {cool(1, 1), api.CandyState{}, api.ErrRange}, {cool(1, 0), api.CandyState{}, api.ErrRange}, {cool(0, -1), api.CandyState{}, api.ErrRange}, {cool(-2001, 0), api.CandyState{}, api.ErrRange}, {cool(-2001, -2001), api.CandyState{}, api.ErrRange}, {cool(low, 0), api.CandyState{}, api.ErrRange}, {cool(low, high), api.CandyState{}, api.ErrRange},
		{stir(0, 0), begun(between(6666, 6667), just(0), just(0)), api.OK}, {stir(5, 9), begun(between(6666, 6667), just(0), between(5, 9)), api.OK}, {stir(0, 1000), begun(between(6666, 6667), just(0), between(0, 1000)), api.OK}, {stir(1000, 1000), begun(between(6666, 6667), just(0), just(1000)), api.OK},
		{stir(0, 1001), api.CandyState{}, api.ErrRange}, {stir(1001, 1001), api.CandyState{}, api.ErrRange}, {stir(-1, 5), api.CandyState{}, api.ErrRange}, {stir(-1, -1), api.CandyState{}, api.ErrRange}, {stir(5, 4), api.CandyState{}, api.ErrRange}, {stir(low, 0), api.CandyState{}, api.ErrRange}, {stir(0, high), api.CandyState{}, api.ErrRange}, {stir(high, high), api.CandyState{}, api.ErrRange},
		{seed(0), at(just(0)), api.OK}, {seed(7), seeded(at(just(0)), 7), api.OK}, {seed(1000000), seeded(at(just(0)), 1000000), api.OK},
		{seed(-1), api.CandyState{}, api.ErrRange}, {seed(1000001), api.CandyState{}, api.ErrRange}, {seed(low), api.CandyState{}, api.ErrRange}, {seed(high), api.CandyState{}, api.ErrRange},
	} {
		want := states(c.want)
		if c.e != api.OK {
			want = nil
		}
		sameMake(t, usual(), usualSap(), acts(c.a), want, 0, c.e)
	}
}

// TestP11_4Brix has sap of any concentration, that is cooked to less, and to more.
func TestP11_4Brix(t *testing.T) {
	for _, c := range []struct {
		s    api.Sap
		want api.Range
	}{
		{sap(0, 1), just(10000)}, {sap(0, 1000000000000), just(10000)}, {sap(1000000000000, 1), between(0, 1)}, {sap(1, 1), just(5000)}, {sap(2, 1), between(3333, 3334)}, {sap(1, 1000000000000), between(9999, 10000)}, {sap(98, 2), just(200)}, {sap(1000000000000, 1000000000000), just(5000)},
	} {
		cooked := between(max(8529, c.want.Low), max(8638, c.want.High))
		sameMake(t, usual(), c.s, acts(seed(0), cook(-2000, -2000), cook(1180, 1180)), states(standing(c.want, just(0)), standing(c.want, just(-2000)), standing(cooked, just(1180))), 0, api.OK)
	}
	// One end alone can be greater.
	wide := with(func(r *api.CandyRules) { r.Base = between(0, 2000) })
	sameMake(t, wide, usualSap(), acts(cook(300, 300)), states(standing(between(6666, 9500), just(300))), 0, api.OK)
	sameMake(t, usual(), usualSap(), acts(cook(1180, 1180), cook(1100, 1190), cook(0, 0), cook(1185, 1185), cook(1179, 1182)), states(
		standing(between(8529, 8638), just(1180)), standing(between(8529, 8713), between(1100, 1190)), standing(between(8529, 8713), just(0)), standing(between(8600, 8713), just(1185)), standing(between(8600, 8713), between(1179, 1182)),
	), 0, api.OK)
}

// TestP11_4Behind has each kind of act behind others, and twice.
func TestP11_4Behind(t *testing.T) {
	dense := between(8529, 8638)
	hot, warm := standing(dense, just(1180)), standing(dense, between(200, 250))
	before, first := acts(cook(1180, 1180), cool(200, 250)), states(hot, warm)
	stirred := begun(dense, between(200, 250), between(10, 20))
	cooled := func(x api.CandyState, heat api.Range) api.CandyState {
		x.Heat = heat
		return x
	}
	for _, c := range []struct {
		l    []api.CandyAct
		want []api.CandyState
	}{
		{acts(cool(200, 250)), states(warm)}, {acts(cool(-2000, -2000)), states(cooled(warm, just(-2000)))}, {acts(cool(200, 200), cool(0, 200)), states(cooled(warm, just(200)), cooled(warm, between(0, 200)))}, {acts(cool(0, 250), cool(-1, 250), cool(-1, -1)), states(cooled(warm, between(0, 250)), cooled(warm, between(-1, 250)), cooled(warm, just(-1)))},
		{acts(cook(1100, 1100), cool(1100, 1100)), states(standing(dense, just(1100)), standing(dense, just(1100)))}, {acts(seed(3), cook(1190, 1190)), states(seeded(warm, 3), seeded(standing(between(8638, 8713), just(1190)), 3))},
		{acts(stir(10, 20), cool(100, 250), cool(100, 100)), states(stirred, cooled(stirred, between(100, 250)), cooled(stirred, just(100)))}, {acts(stir(10, 20), seed(5), stir(0, 1)), states(stirred, seeded(stirred, 5), seeded(begun(dense, between(200, 250), between(10, 21)), 5))}, {acts(stir(10, 20), stir(10, 20)), states(stirred, begun(dense, between(200, 250), between(20, 40)))},
		{acts(stir(10, 20), cool(0, 0), stir(1, 2)), states(stirred, cooled(stirred, just(0)), cooled(begun(dense, between(200, 250), between(11, 22)), just(0)))}, {acts(stir(0, 0), cool(0, 0), stir(0, 0)), states(begun(dense, between(200, 250), just(0)), cooled(begun(dense, between(200, 250), just(0)), just(0)), cooled(begun(dense, between(200, 250), just(0)), just(0)))},
		{acts(stir(10, 20), stir(980, 980)), states(stirred, begun(dense, between(200, 250), between(990, 1000)))}, {acts(stir(10, 20), stir(0, 980), stir(0, 0)), states(stirred, begun(dense, between(200, 250), between(10, 1000)), begun(dense, between(200, 250), between(10, 1000)))},
		{acts(seed(5), seed(0), seed(6)), states(seeded(warm, 5), seeded(warm, 5), seeded(warm, 11))}, {acts(seed(999999), seed(1), seed(0)), states(seeded(warm, 999999), seeded(warm, 1000000), seeded(warm, 1000000))}, {acts(seed(1000000), stir(10, 20)), states(seeded(warm, 1000000), seeded(stirred, 1000000))},
	} {
		sameMake(t, usual(), usualSap(), append(before, c.l...), append(first, c.want...), 0, api.OK)
	}
}

// TestP11_4Act has acts with errors behind others.
func TestP11_4Act(t *testing.T) {
	before := acts(cook(1180, 1180), cool(200, 250))
	heavy := func(a api.CandyAct, n int) api.CandyAct {
		a.Mass = n
		return a
	}
	kind := func(k api.CandyActKind) api.CandyAct { return api.CandyAct{Kind: k} }
	ranged := func(n int, r api.Range) api.CandyAct {
		return api.CandyAct{Kind: api.CandySeed, Mass: n, Range: r}
	}
	for _, c := range []struct {
		l    []api.CandyAct
		at   int
		want api.Errno
	}{
		{acts(kind(0)), 2, api.ErrArg}, {acts(kind(5)), 2, api.ErrArg}, {acts(kind(-1)), 2, api.ErrArg}, {acts(kind(low)), 2, api.ErrArg}, {acts(kind(high)), 2, api.ErrArg}, {acts(stir(1, 1), kind(0), kind(5)), 3, api.ErrArg}, {acts(api.CandyAct{Range: just(5)}), 2, api.ErrArg}, {acts(api.CandyAct{Kind: 5, Mass: 1}), 2, api.ErrArg},
		{acts(heavy(cook(1100, 1100), 1)), 2, api.ErrArg}, {acts(heavy(cool(0, 0), 1)), 2, api.ErrArg}, {acts(heavy(stir(1, 1), 1)), 2, api.ErrArg}, {acts(heavy(cook(1100, 1100), -1)), 2, api.ErrArg}, {acts(heavy(cool(0, 0), low)), 2, api.ErrArg}, {acts(heavy(stir(1, 1), high)), 2, api.ErrArg}, {acts(heavy(cook(2000, 2000), 1)), 2, api.ErrArg}, {acts(heavy(cool(300, 300), 1)), 2, api.ErrArg}, {acts(heavy(stir(5, 4), 1)), 2, api.ErrArg}, {acts(stir(1, 1), heavy(cook(1100, 1100), 1)), 3, api.ErrArg}, {acts(stir(1, 1), heavy(stir(1000, 1000), 1)), 3, api.ErrArg},
		{acts(ranged(5, just(1))), 2, api.ErrArg}, {acts(ranged(5, between(0, 1))), 2, api.ErrArg}, {acts(ranged(5, between(-1, 0))), 2, api.ErrArg}, {acts(ranged(5, between(1, 0))), 2, api.ErrArg}, {acts(ranged(-1, just(1))), 2, api.ErrArg}, {acts(seed(1000000), ranged(1, just(1))), 3, api.ErrArg}, {acts(ranged(0, between(low, high))), 2, api.ErrArg},
		{acts(stir(0, 0), cook(1180, 1180)), 3, api.ErrState}, {acts(stir(5, 5), cook(1180, 1179)), 3, api.ErrState}, {acts(stir(5, 5), cook(2000, 2000)), 3, api.ErrState}, {acts(stir(5, 5), cool(0, 0), seed(5), cook(0, 0)), 5, api.ErrState}, {acts(cook(1180, 1179)), 2, api.ErrArg}, {acts(cook(1296, 1296)), 2, api.ErrNone}, {acts(cook(1296, 2001)), 2, api.ErrArg}, {acts(cook(1100, 1100), cook(1100, 1296)), 3, api.ErrNone},
		{acts(cool(201, 250)), 2, api.ErrRange}, {acts(cool(200, 251)), 2, api.ErrRange}, {acts(cool(251, 251)), 2, api.ErrRange}, {acts(cool(201, 201)), 2, api.ErrRange}, {acts(cool(250, 200)), 2, api.ErrRange}, {acts(cool(0, 0), cool(0, 1)), 3, api.ErrRange}, {acts(stir(1, 1), cool(201, 250)), 3, api.ErrRange}, {acts(cool(-2001, 250)), 2, api.ErrRange}, {acts(cool(199, 198)), 2, api.ErrRange}, {acts(cook(2, 2), cool(2, 3)), 3, api.ErrRange},
		{acts(stir(10, 20), stir(0, 981)), 3, api.ErrOver}, {acts(stir(10, 20), stir(981, 981)), 3, api.ErrOver}, {acts(stir(10, 20), stir(1000, 1000)), 3, api.ErrOver}, {acts(stir(10, 20), stir(1000, 1001)), 3, api.ErrRange}, {acts(stir(10, 20), stir(0, 1001)), 3, api.ErrRange}, {acts(stir(10, 20), stir(-1, 1000)), 3, api.ErrRange}, {acts(stir(1000, 1000), stir(0, 0), stir(0, 1)), 4, api.ErrOver}, {acts(stir(0, 1000), stir(1, 1)), 3, api.ErrOver}, {acts(stir(0, 500), stir(0, 500), stir(0, 1)), 4, api.ErrOver}, {acts(stir(0, 1), stir(high, high)), 3, api.ErrRange},
		{acts(seed(1000000), seed(1)), 3, api.ErrOver}, {acts(seed(1), seed(1000000)), 3, api.ErrOver}, {acts(seed(1), seed(1000001)), 3, api.ErrRange}, {acts(seed(5), seed(-1)), 3, api.ErrRange}, {acts(seed(500000), seed(500000), seed(1)), 4, api.ErrOver}, {acts(seed(1), seed(high)), 3, api.ErrRange}, {acts(seed(1000000), seed(0), seed(1000000), kind(0)), 4, api.ErrOver},
	} {
		sameMake(t, usual(), usualSap(), append(before, c.l...), nil, c.at, c.want)
		// What comes behind the act with the error does not matter.
		sameMake(t, usual(), usualSap(), append(append(before, c.l...), acts(kind(0), stir(5, 4), cook(0, 0))...), nil, c.at, c.want)
	}
}

// TestP11_4Errors has several errors at once: the one named first is returned.
func TestP11_4Errors(t *testing.T) {
	wrong := api.CandyAct{Kind: 9}
	for _, s := range wrongSaps() {
		sameMake(t, usual(), s, nil, nil, 0, api.ErrArg)
		sameMake(t, usual(), s, times(31, wrong), nil, 0, api.ErrArg)
	}
	for _, s := range []api.Sap{sap(0, 0), sap(1, 0), sap(1000000000000, 0)} {
		sameMake(t, usual(), s, nil, nil, 0, api.ErrNone)
		sameMake(t, usual(), s, times(31, wrong), nil, 0, api.ErrNone)
	}
	sameMake(t, api.CandyRules{}, sap(5, 0), times(31, wrong), nil, 0, api.ErrArg)
	sameMake(t, usual(), usualSap(), times(31, wrong), nil, 0, api.ErrLong)
	sameMake(t, usual(), usualSap(), times(31, seed(1)), nil, 0, api.ErrLong)
	sameMake(t, usual(), usualSap(), times(100000, seed(1)), nil, 0, api.ErrLong)
	sameMake(t, usual(), usualSap(), times(30, wrong), nil, 0, api.ErrArg)
	sameMake(t, usual(), usualSap(), append(times(29, seed(1)), wrong), nil, 29, api.ErrArg)
	var behind []api.CandyState
	for n := range 30 {
		behind = append(behind, seeded(at(just(0)), n+1))
		sameMake(t, usual(), usualSap(), times(n+1, seed(1)), behind, 0, api.OK)
		if n < 29 {
			sameMake(t, usual(), usualSap(), append(times(n+1, seed(1)), wrong), nil, n+1, api.ErrArg)
		}
	}
}

// TestP11_4Definitions compares any acts with the definition, and each state with that behind fewer acts.
func TestP11_4Definitions(t *testing.T) {
	d := dice()
	seen := map[api.Errno]int{}
	for range 20000 {
		r := anyRules(d)
		if d.IntN(2) == 0 {
			r = usual()
		}
		most := []int{5, 5000, 1000000000000}[d.IntN(3)]
		s := sap(pick(d, 0, most), pick(d, 0, most))
		l := anyActs(d, pick(d, 0, []int{4, 31}[d.IntN(2)]))
		want, n, e := makeOf(r, s, l)
		sameMake(t, r, s, l, want, n, e)
		seen[e]++
		if n > 0 {
			fewer, _, f := candy.Make(r, s, l[:n])
			if f != api.OK || len(fewer) != n {
				t.Fatal("an act before the one with the error has an error:", r, s, l, n, f)
			}
		}
	}
	for _, e := range []api.Errno{api.OK, api.ErrArg, api.ErrNone, api.ErrLong, api.ErrState, api.ErrRange, api.ErrOver} {
		if seen[e] < 50 {
			t.Error("too few of the error", e, seen)
		}
	}
}
