package candy_test

import (
	"fmt"
	"testing"

	"spile/api"
	"spile/candy"
)

// based returns rules with an elevation, and with a temperature at which water boils.
func based(base api.Range, elevation ...int) api.CandyRules {
	return with(func(r *api.CandyRules) { r.Base, r.Elevation = base, table(elevation...) })
}

func TestP11_2Dense(t *testing.T) {
	known := with(func(r *api.CandyRules) { r.Base = just(1000) })
	high := based(between(0, 2000), 100, 50, 200, 60)
	for _, c := range []struct {
		r                 api.CandyRules
		temperature, want api.Range
	}{
		{usual(), between(1130, 1135), between(7815, 8029)}, {usual(), just(1130), between(7815, 7958)}, {usual(), just(1180), between(8529, 8638)}, {usual(), just(1190), between(8638, 8713)}, {usual(), between(1180, 1190), between(8529, 8713)},
		{usual(), just(995), just(0)}, {usual(), just(996), between(0, 165)}, {usual(), just(1005), between(0, 1650)}, {usual(), just(1006), between(165, 1815)}, {usual(), between(0, 10), just(0)}, {usual(), just(-2000), just(0)}, {usual(), between(-2000, 994), just(0)}, {usual(), between(-2000, 996), between(0, 165)}, {usual(), between(-2000, 1295), between(0, 9500)},
		{usual(), just(1295), between(9425, 9500)}, {usual(), just(1294), between(9418, 9493)}, {usual(), between(1005, 1295), between(0, 9500)}, {usual(), between(1006, 1295), between(165, 9500)},
		{known, just(1000), just(0)}, {known, just(1001), just(165)}, {known, just(1039), just(6435)}, {known, just(1040), just(6600)}, {known, just(1041), just(6615)}, {known, just(1179), just(8586)}, {known, just(1180), just(8600)}, {known, just(1181), just(8608)}, {known, just(1299), just(9493)}, {known, just(1300), just(9500)}, {known, between(1040, 1180), between(6600, 8600)},
		{high, just(49), just(100)}, {high, just(50), just(100)}, {high, just(51), between(100, 110)}, {high, just(60), between(100, 200)}, {high, just(-2000), just(100)},
		{based(just(0), 0, 0, 10000, 2000), just(2000), just(10000)}, {based(just(0), 0, 0, 10000, 2000), just(1999), just(9995)}, {based(just(0), 0, 0, 10000, 2000), just(-2000), just(0)}, {based(just(0), 0, 0, 10000, 2000), between(-2000, 2000), between(0, 10000)}, {based(just(2000), 0, 0, 10000, 2000), between(-2000, 2000), just(0)}, {based(between(0, 2000), 0, 0, 10000, 2000), between(-2000, 2000), between(0, 10000)}, {based(between(0, 2000), 0, 0, 10000, 2000), just(2000), between(0, 10000)},
		{based(just(5), 7, 0, 8, 2000), just(5), just(7)}, {based(just(5), 7, 0, 8, 2000), just(6), just(8)}, {based(just(5), 7, 0, 8, 1999), just(2000), just(8)}, {based(just(5), 9999, 3, 10000, 4), just(8), just(9999)}, {based(just(5), 9999, 3, 10000, 4), just(9), just(10000)}, {based(just(0), 0, 0, 3, 1, 5, 2), just(1), just(3)}, {based(just(0), 0, 0, 3, 2, 9, 3), just(1), just(2)}, {based(just(0), 0, 0, 3, 2, 9, 3), just(2), just(3)}, {based(just(0), 0, 0, 3, 2, 9, 3), just(3), just(9)},
	} {
		sameDense(t, c.r, c.temperature, c.want, api.OK)
		if truly, e := denseOf(c.r, c.temperature); truly != c.want || e != api.OK {
			t.Error("by the definition:", c.r, c.temperature, truly, e)
		}
	}
}

func TestP11_2Errors(t *testing.T) {
	for _, temperature := range wrongRanges(-2000, 2000) {
		sameDense(t, usual(), temperature, api.Range{}, api.ErrArg)
		sameDense(t, based(just(0), 0, 0, 10000, 2000), temperature, api.Range{}, api.ErrArg)
	}
	for _, temperature := range rightRanges(-2000, 2000) {
		sameDense(t, based(just(2000), 0, 0, 10000, 2000), temperature, just(0), api.OK)
	}
	for _, c := range []struct {
		temperature api.Range
		want        api.Errno
	}{
		{just(1296), api.ErrNone}, {between(1295, 1296), api.ErrNone}, {between(0, 1296), api.ErrNone}, {just(1305), api.ErrNone}, {just(1306), api.ErrNone}, {between(1306, 1307), api.ErrNone}, {just(2000), api.ErrNone}, {between(-2000, 2000), api.ErrNone}, {between(1296, 2001), api.ErrArg}, {between(1306, 1305), api.ErrArg}, {between(-2001, 1306), api.ErrArg},
	} {
		sameDense(t, usual(), c.temperature, api.Range{}, c.want)
	}
	sameDense(t, based(just(5), 0, 0, 10, 1995), just(2000), just(10), api.OK)
	sameDense(t, based(just(5), 0, 0, 10, 1994), just(2000), api.Range{}, api.ErrNone)
	sameDense(t, based(between(4, 5), 0, 0, 10, 1995), just(2000), api.Range{}, api.ErrNone)
	sameDense(t, based(between(5, 6), 0, 0, 10, 1995), just(2000), just(10), api.OK)
}

// TestP11_2Definitions looks at all densities of any tables.
func TestP11_2Definitions(t *testing.T) {
	d := dice()
	seen := map[api.Errno]int{}
	for range 2000 {
		r := anyRules(d)
		first, last := r.Elevation[0], r.Elevation[len(r.Elevation)-1]
		least := func(y int) int {
			for x := first.X; x <= last.X; x++ {
				if num, den := valueAt(r.Elevation, x); num >= y*den {
					return x
				}
			}
			return last.X + 1
		}
		temperature := anyRange(d, first.Y-5, min(2000, last.Y+r.Base.High+1))
		want, e := between(least(temperature.Low-r.Base.High), least(temperature.High-r.Base.Low)), api.OK
		if want.High > last.X {
			want, e = api.Range{}, api.ErrNone
		}
		sameDense(t, r, temperature, want, e)
		if truly, f := denseOf(r, temperature); truly != want || f != e {
			t.Fatal("by the definition:", r, temperature, truly, f)
		}
		seen[e]++
	}
	if seen[api.OK] < 500 || seen[api.ErrNone] < 200 {
		t.Error("too few of a kind:", seen)
	}
}

// holding returns rules with another solubility.
func holding(solubility ...int) api.CandyRules {
	return with(func(r *api.CandyRules) { r.Solubility = table(solubility...) })
}

func TestP11_3Crystals(t *testing.T) {
	none, all := holding(0, 0, 10, 0), holding(0, 9999, 10, 9999)
	valley := holding(-10, 5000, 0, 2000, 10, 9000, 2000, 9000)
	million := 1000000000000
	for _, c := range []struct {
		r                 api.CandyRules
		s                 api.Sap
		temperature, want api.Range
	}{
		{usual(), sap(340, 660), just(0), just(56)}, {usual(), sap(340, 660), just(1000), just(0)}, {usual(), sap(340, 660), between(0, 1000), between(0, 56)}, {usual(), sap(340, 660), just(10), just(51)}, {usual(), sap(340, 660), between(0, 10), between(51, 56)}, {usual(), sap(36000, 66000), just(0), just(2000)}, {usual(), sap(36001, 66000), just(0), just(1999)}, {usual(), sap(36000, 64000), just(0), just(0)}, {usual(), sap(36000, 64001), just(0), just(1)}, {usual(), sap(36000, 63999), just(0), just(0)},
		{usual(), sap(3600000, 6600000), just(5), between(172145, 174938)}, {usual(), sap(3600000, 6600000), between(5, 6), between(166556, 174938)},
		{usual(), sap(500, 0), just(0), just(0)}, {usual(), sap(0, 500), between(0, 1000), just(500)}, {usual(), sap(0, 0), just(500), just(0)}, {usual(), sap(million, million), just(0), just(0)}, {usual(), sap(0, million), just(0), just(million)}, {usual(), sap(million, 0), just(0), just(0)}, {usual(), sap(1, million), just(0), just(million - 1)}, {usual(), sap(10, 5), just(0), just(0)},
		{none, sap(500, 500), between(0, 10), just(500)}, {none, sap(million, million), just(3), just(million)}, {none, sap(million, 0), just(3), just(0)}, {all, sap(1, 10000), just(0), just(1)}, {all, sap(1, 9999), between(0, 10), just(0)}, {all, sap(100, 999901), just(10), just(1)}, {all, sap(million, million), just(5), just(0)}, {all, sap(100000000, million), just(5), just(100000000)}, {all, sap(0, 7), just(5), just(7)},
		{valley, sap(100, 900), between(-10, 10), between(0, 875)}, {valley, sap(100, 900), between(-10, -10), just(800)}, {valley, sap(100, 900), between(-10, 0), between(800, 875)}, {valley, sap(100, 1000), between(10, 2000), just(100)}, {valley, sap(100, 1000), between(-1, 0), between(971, 975)}, {valley, sap(100, 1000), just(2000), just(100)}, {valley, sap(100, 1000), just(-10), just(900)},
		{holding(-2000, 0, 2000, 9999), sap(100, 1000), between(-2000, 2000), between(0, 1000)}, {holding(-2000, 9999, 2000, 0), sap(100, 1000), between(-2000, 2000), between(0, 1000)},
	} {
		sameCrystals(t, c.r, c.s, c.temperature, c.want, api.OK)
		if truly, e := crystalsOf(c.r, c.s, c.temperature); truly != c.want || e != api.OK {
			t.Error("by the definition:", c.r, c.s, c.temperature, truly, e)
		}
	}
}

// wrongSaps are sap that is not valid.
func wrongSaps() []api.Sap {
	return []api.Sap{sap(-1, 5), sap(5, -1), sap(-1, -1), sap(1000000000001, 5), sap(5, 1000000000001), sap(low, 5), sap(5, low), sap(high, 5), sap(5, high), sap(low, low), sap(high, high), sap(-5, 10), sap(10, -5)}
}

func TestP11_3Errors(t *testing.T) {
	for _, s := range wrongSaps() {
		for _, temperature := range []api.Range{just(0), just(-1), between(5, 4), just(high)} {
			sameCrystals(t, usual(), s, temperature, api.Range{}, api.ErrArg)
		}
	}
	far := 1000000000000000
	for _, c := range []struct {
		temperature api.Range
		want        api.Errno
	}{
		{just(-1), api.ErrRange}, {just(1001), api.ErrRange}, {between(-1, 0), api.ErrRange}, {between(1000, 1001), api.ErrRange}, {between(-1, 1001), api.ErrRange}, {between(-2, -1), api.ErrRange}, {between(1001, 1002), api.ErrRange}, {just(-2000), api.ErrRange}, {just(2001), api.ErrRange}, {between(-far, far), api.ErrRange}, {just(far), api.ErrRange}, {just(-far), api.ErrRange},
		{between(1, 0), api.ErrArg}, {between(1001, 1000), api.ErrArg}, {between(0, -1), api.ErrArg}, {just(far + 1), api.ErrArg}, {just(-far - 1), api.ErrArg}, {between(low, high), api.ErrArg}, {between(high, low), api.ErrArg}, {between(0, far+1), api.ErrArg}, {between(-far-1, 0), api.ErrArg},
	} {
		for _, s := range []api.Sap{usualSap(), sap(0, 0), sap(5, 0)} {
			sameCrystals(t, usual(), s, c.temperature, api.Range{}, c.want)
		}
	}
}

// TestP11_3Definitions looks at all temperatures and saturations of any tables.
func TestP11_3Definitions(t *testing.T) {
	d := dice()
	some := 0
	for range 5000 {
		r := anyRules(d)
		first, last := r.Solubility[0].X, r.Solubility[len(r.Solubility)-1].X
		temperature := anyRange(d, first, min(last, first+pick(d, 0, 300)))
		most := []int{50, 10000, 1000000000000}[d.IntN(3)]
		s := sap(pick(d, 0, most), pick(d, 0, most))
		want, e := crystalsOf(r, s, temperature)
		sameCrystals(t, r, s, temperature, want, e)
		if e != api.OK {
			t.Fatal("an error:", r, s, temperature, e)
		}
		if want.Low > 0 && want.High < s.Sugar {
			some++
		}
		// Beyond the table there is an error.
		sameCrystals(t, r, s, between(first-1, last), api.Range{}, api.ErrRange)
		sameCrystals(t, r, s, between(first, last+1), api.Range{}, api.ErrRange)
	}
	if some < 500 {
		t.Error("too few where some sugar crystallizes:", some)
	}
}

// TestP11_3AllAndNone shows that it depends on the saturation alone how much there is.
func TestP11_3AllAndNone(t *testing.T) {
	for y := range 10000 {
		r := holding(0, y, 10, y)
		s := sap(1000, 2000000)
		want := max(0, 2000000-1000*y/(10000-y))
		if told, e := candy.Crystals(r, s, between(0, 10)); told != just(want) || e != api.OK {
			t.Fatal(fmt.Sprint("the saturation ", y), told, e, want)
		}
	}
}
