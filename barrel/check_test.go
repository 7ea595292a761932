package barrel_test

import (
	"fmt"
	"slices"
	"testing"

	"spile/api"
	"spile/barrel"
)

// ruled asks all functions with rules, and tested those with a test, and they return their errors.
func ruled(l api.GradeRules, b api.BarrelTest, k []api.Keg) map[string]api.Errno {
	errs := tested(l, b)
	delete(errs, "CheckTest")
	errs["CheckGrades"] = barrel.CheckGrades(l)
	_, errs["Grade"] = barrel.Grade(l, api.Syrup{})
	_, errs["Intact"] = barrel.Intact(l, api.Weighing{Gross: -1}, api.Weighing{})
	_, errs["Kegged"] = barrel.Kegged(l, api.Keg{})
	_, _, errs["Blend"] = barrel.Blend(l, k)
	return errs
}

func tested(l api.GradeRules, b api.BarrelTest) map[string]api.Errno {
	errs := map[string]api.Errno{"CheckTest": barrel.CheckTest(b)}
	_, errs["Net"] = barrel.Net(l, b)
	_, errs["Density"] = barrel.Density(l, b)
	_, _, _, errs["Panel"] = barrel.Panel(l, b)
	_, errs["Grades"] = barrel.Grades(l, b)
	_, errs["Worth"] = barrel.Worth(l, b)
	return errs
}

// ruleCases are rules at the bounds of each field, and one step beyond them.
func ruleCases() []struct {
	change func(l *api.GradeRules)
	want   api.Errno
} {
	correction := func(n ...int) func(l *api.GradeRules) {
		return func(l *api.GradeRules) { l.Correction = table(n...) }
	}
	density := func(a api.Range) func(l *api.GradeRules) { return func(l *api.GradeRules) { l.Density = a } }
	number := func(which func(l *api.GradeRules) *int, n int) func(l *api.GradeRules) {
		return func(l *api.GradeRules) { *which(l) = n }
	}
	least := func(i int) func(l *api.GradeRules) *int {
		return func(l *api.GradeRules) *int { return &l.Classes[i].Least }
	}
	flavour := func(i int, a api.Range) func(l *api.GradeRules) {
		return func(l *api.GradeRules) { l.Classes[i].Flavour = a }
	}
	pay := func(i int) func(l *api.GradeRules) *int {
		return func(l *api.GradeRules) *int { return &l.Classes[i].Price }
	}
	many := func(n int) func(l *api.GradeRules) { return func(l *api.GradeRules) { l.Classes = manyClasses(n) } }
	long := func(n int) func(l *api.GradeRules) { return func(l *api.GradeRules) { l.Correction = rows(n) } }
	bad := func(l *api.GradeRules) *int { return &l.Bad }
	scale := func(l *api.GradeRules) *int { return &l.Scale }
	price := func(l *api.GradeRules) *int { return &l.Price }
	return []struct {
		change func(l *api.GradeRules)
		want   api.Errno
	}{
		{func(l *api.GradeRules) {}, api.OK}, {func(l *api.GradeRules) { *l = api.GradeRules{} }, api.ErrArg},
		{long(0), api.ErrArg}, {long(1), api.ErrArg}, {long(2), api.OK}, {long(60), api.OK}, {long(61), api.ErrArg}, {long(5000), api.ErrArg},
		{correction(0, 0, 0, 1), api.ErrArg}, {correction(0, 0, 1, 1), api.OK}, {correction(1, 0, 0, 0), api.ErrArg}, {correction(0, 0, 2, 0, 1, 0), api.ErrArg},
		{correction(-1000000000, 0, 1000000000, 0), api.OK}, {correction(-1000000001, 0, 1000000000, 0), api.ErrArg}, {correction(-1000000000, 0, 1000000001, 0), api.ErrArg}, {correction(low, 0, high, 0), api.ErrArg},
		{correction(0, -10000, 1, 10000), api.OK}, {correction(0, 10000, 1, -10000), api.OK}, {correction(0, -10001, 1, 0), api.ErrArg}, {correction(0, 10001, 1, 0), api.ErrArg}, {correction(0, 0, 1, -10001), api.ErrArg}, {correction(0, 0, 1, 10001), api.ErrArg}, {correction(0, 0, 1, 10001, 2, 0), api.ErrArg}, {correction(0, low, 1, 0), api.ErrArg}, {correction(0, 0, 1, high), api.ErrArg},
		{density(r(0, 10000)), api.OK}, {density(one(0)), api.OK}, {density(one(10000)), api.OK}, {density(r(-1, 10000)), api.ErrArg}, {density(r(0, 10001)), api.ErrArg}, {density(r(6891, 6890)), api.ErrArg}, {density(one(6890)), api.OK}, {density(one(-1)), api.ErrArg}, {density(one(10001)), api.ErrArg}, {density(r(10000, 0)), api.ErrArg}, {density(r(low, high)), api.ErrArg}, {density(r(high, low)), api.ErrArg},
		{many(0), api.ErrArg}, {many(1), api.OK}, {many(8), api.OK}, {many(9), api.ErrArg}, {func(l *api.GradeRules) { l.Classes = times(5000, class(0, r(1, 9), 0)) }, api.ErrArg},
		{number(least(0), 1000), api.OK}, {number(least(0), 1001), api.ErrArg}, {number(least(2), 0), api.OK}, {number(least(2), -1), api.ErrArg}, {number(least(1), 749), api.OK}, {number(least(1), 750), api.ErrArg}, {number(least(1), 751), api.ErrArg}, {number(least(1), 251), api.OK}, {number(least(1), 250), api.ErrArg}, {number(least(1), 249), api.ErrArg}, {number(least(0), 500), api.ErrArg}, {number(least(2), 500), api.ErrArg}, {number(least(0), low), api.ErrArg}, {number(least(0), high), api.ErrArg}, {number(least(2), low), api.ErrArg}, {number(least(2), high), api.ErrArg},
		{flavour(0, r(1, 9)), api.OK}, {flavour(0, r(0, 9)), api.ErrArg}, {flavour(0, r(1, 10)), api.ErrArg}, {flavour(2, one(1)), api.OK}, {flavour(2, one(9)), api.OK}, {flavour(2, one(0)), api.ErrArg}, {flavour(2, one(10)), api.ErrArg}, {flavour(1, r(4, 3)), api.ErrArg}, {flavour(1, r(low, high)), api.ErrArg}, {flavour(1, r(9, 1)), api.ErrArg},
		{number(pay(0), 0), api.OK}, {number(pay(0), -1), api.ErrArg}, {number(pay(2), 1000000), api.OK}, {number(pay(2), 1000001), api.ErrArg}, {number(pay(1), low), api.ErrArg}, {number(pay(1), high), api.ErrArg},
		{number(bad, 1), api.OK}, {number(bad, 0), api.ErrArg}, {number(bad, 20), api.OK}, {number(bad, 21), api.ErrArg}, {number(bad, low), api.ErrArg}, {number(bad, high), api.ErrArg},
		{number(scale, 0), api.OK}, {number(scale, -1), api.ErrArg}, {number(scale, 1000000000), api.OK}, {number(scale, 1000000001), api.ErrArg}, {number(scale, low), api.ErrArg}, {number(scale, high), api.ErrArg},
		{number(price, 0), api.OK}, {number(price, -1), api.ErrArg}, {number(price, 1000000), api.OK}, {number(price, 1000001), api.ErrArg}, {number(price, low), api.ErrArg}, {number(price, high), api.ErrArg},
	}
}

// TestP8_1Rules also asks all functions about rules that are not valid, with other errors beside them.
func TestP8_1Rules(t *testing.T) {
	light := testWith(func(b *api.BarrelTest) { b.Gross, b.Temperature = 0, one(401) })
	for i, c := range ruleCases() {
		l := rulesWith(c.change)
		sameErr(t, fmt.Sprint("CheckGrades ", i, l), barrel.CheckGrades(l), c.want)
		if c.want == api.OK {
			_, e := barrel.Grade(l, api.Syrup{})
			sameErr(t, fmt.Sprint("Grade ", i, l), e, api.OK)
			continue
		}
		for _, b := range []api.BarrelTest{usualTest(), light, {}} {
			for name, e := range ruled(l, b, times(13, keg(1, 1, 1, 1))) {
				sameErr(t, fmt.Sprint(name, " ", i, l, b), e, api.ErrArg)
			}
		}
	}
}

// testCases are tests at the bounds of each field, and one step beyond them.
func testCases() []struct {
	change func(b *api.BarrelTest)
	want   api.Errno
} {
	gross := func(gross, tare int) func(b *api.BarrelTest) {
		return func(b *api.BarrelTest) { b.Gross, b.Tare = gross, tare }
	}
	hydro := func(a api.Range) func(b *api.BarrelTest) { return func(b *api.BarrelTest) { b.Hydro = a } }
	warm := func(a api.Range) func(b *api.BarrelTest) { return func(b *api.BarrelTest) { b.Temperature = a } }
	light := func(a api.Range) func(b *api.BarrelTest) { return func(b *api.BarrelTest) { b.Light = a } }
	seats := func(l ...api.Taster) func(b *api.BarrelTest) { return func(b *api.BarrelTest) { b.Panel = l } }
	who := func(i int, x api.Taster) func(b *api.BarrelTest) {
		return func(b *api.BarrelTest) { b.Panel[i] = x }
	}
	t := func(sure, perhaps int) api.Taster { return tastes(one(3), sure, perhaps) }
	return []struct {
		change func(b *api.BarrelTest)
		want   api.Errno
	}{
		{func(b *api.BarrelTest) {}, api.OK}, {func(b *api.BarrelTest) { *b = api.BarrelTest{} }, api.ErrArg}, {func(b *api.BarrelTest) { *b = api.BarrelTest{Panel: panel(taster(one(1)))} }, api.OK},
		{gross(0, 0), api.OK}, {gross(ton, ton), api.OK}, {gross(ton, 0), api.OK}, {gross(0, ton), api.OK}, {gross(-1, 0), api.ErrArg}, {gross(0, -1), api.ErrArg}, {gross(-1, -1), api.ErrArg}, {gross(ton+1, 0), api.ErrArg}, {gross(0, ton+1), api.ErrArg}, {gross(ton+1, ton+1), api.ErrArg}, {gross(low, 0), api.ErrArg}, {gross(high, 0), api.ErrArg}, {gross(5, low), api.ErrArg}, {gross(5, high), api.ErrArg}, {gross(high, low), api.ErrArg},
		{hydro(r(0, 10000)), api.OK}, {hydro(one(0)), api.OK}, {hydro(one(10000)), api.OK}, {hydro(r(-1, 5)), api.ErrArg}, {hydro(r(5, 10001)), api.ErrArg}, {hydro(r(6, 5)), api.ErrArg}, {hydro(r(low, high)), api.ErrArg}, {hydro(r(high, low)), api.ErrArg},
		{warm(one(-1000000000000000)), api.OK}, {warm(r(-1000000000000000, 1000000000000000)), api.OK}, {warm(r(-1000000000000001, 0)), api.ErrArg}, {warm(r(0, 1000000000000001)), api.ErrArg}, {warm(r(200, 199)), api.ErrArg}, {warm(r(500, 499)), api.ErrArg}, {warm(one(-1)), api.OK}, {warm(one(401)), api.OK}, {warm(r(low, high)), api.ErrArg}, {warm(r(high, low)), api.ErrArg},
		{light(r(0, 1000)), api.OK}, {light(one(0)), api.OK}, {light(one(1000)), api.OK}, {light(r(-1, 5)), api.ErrArg}, {light(r(5, 1001)), api.ErrArg}, {light(r(6, 5)), api.ErrArg}, {light(r(low, high)), api.ErrArg}, {light(r(high, low)), api.ErrArg},
		{seats(), api.ErrArg}, {seats(t(0, 0)), api.OK}, {seats(t(0, 0), t(0, 0)), api.OK}, {seats(times(20, t(1, 1))...), api.OK}, {seats(times(21, t(1, 1))...), api.ErrArg}, {seats(times(5000, t(1, 1))...), api.ErrArg},
		{who(0, taster(r(1, 9))), api.OK}, {who(0, taster(r(0, 9))), api.ErrArg}, {who(0, taster(r(1, 10))), api.ErrArg}, {who(2, taster(one(0))), api.ErrArg}, {who(2, taster(one(10))), api.ErrArg}, {who(2, taster(one(1))), api.OK}, {who(2, taster(one(9))), api.OK}, {who(1, taster(r(4, 3))), api.ErrArg}, {who(1, taster(r(low, high))), api.ErrArg}, {who(1, api.Taster{}), api.ErrArg},
		{who(0, t(0, 255)), api.OK}, {who(2, t(255, 255)), api.OK}, {who(2, t(0, 256)), api.ErrArg}, {who(0, t(256, 256)), api.ErrArg}, {who(0, t(0, -1)), api.ErrArg}, {who(0, t(-1, -1)), api.ErrArg}, {who(0, t(-1, 255)), api.ErrArg}, {who(0, t(256, 255)), api.ErrArg}, {who(1, t(low, low)), api.ErrArg}, {who(1, t(high, high)), api.ErrArg}, {who(1, t(0, low)), api.ErrArg},
		{who(0, t(1, 0)), api.ErrArg}, {who(2, t(128, 127)), api.ErrArg}, {who(1, t(255, 254)), api.ErrArg}, {who(1, t(6, 5)), api.ErrArg}, {who(1, t(6, 7)), api.OK}, {who(1, t(128, 129)), api.OK}, {who(1, t(3, 4)), api.ErrArg},
	}
}

// TestP8_1Tests also asks all functions about tests that are not valid, with other errors beside them.
func TestP8_1Tests(t *testing.T) {
	for i, c := range testCases() {
		b := testWith(c.change)
		sameErr(t, fmt.Sprint("CheckTest ", i, b), barrel.CheckTest(b), c.want)
		if c.want == api.OK {
			_, _, _, e := barrel.Panel(usual(), b)
			sameErr(t, fmt.Sprint("Panel ", i, b), e, api.OK)
			continue
		}
		for name, e := range tested(usual(), b) {
			sameErr(t, fmt.Sprint(name, " ", i, b), e, api.ErrArg)
		}
		if i%2 == 0 {
			b.Panel = append(slices.Clone(b.Panel), taster(one(10)))
			b.Gross, b.Temperature = 0, one(-1)
			for name, e := range tested(usual(), b) {
				sameErr(t, fmt.Sprint(name, " with other errors ", i, b), e, api.ErrArg)
			}
		}
	}
}

// TestP8_1Bits has each set of sure bad tastes with each set of those that may be.
func TestP8_1Bits(t *testing.T) {
	for sure := -2; sure < 260; sure++ {
		for perhaps := -2; perhaps < 260; perhaps++ {
			want := api.ErrArg
			if sure >= 0 && sure < 256 && perhaps >= 0 && perhaps < 256 && sure|perhaps == perhaps {
				want = api.OK
			}
			b := testWith(func(b *api.BarrelTest) { b.Panel[1] = tastes(one(3), sure, perhaps) })
			if e := barrel.CheckTest(b); e != want {
				t.Fatal("CheckTest", sure, perhaps, e)
			}
		}
	}
}

// TestP8_1Later shows the errors of tests that come after those of the rules and of the test.
func TestP8_1Later(t *testing.T) {
	for i, c := range []struct {
		change func(b *api.BarrelTest)
		want   map[string]api.Errno
	}{
		{func(b *api.BarrelTest) {}, map[string]api.Errno{}},
		{func(b *api.BarrelTest) { b.Gross = 1999 }, map[string]api.Errno{"Net": api.ErrState, "Worth": api.ErrState}},
		{func(b *api.BarrelTest) { b.Temperature = r(200, 401) }, map[string]api.Errno{"Density": api.ErrRange, "Grades": api.ErrRange, "Worth": api.ErrRange}},
		{func(b *api.BarrelTest) { b.Gross, b.Temperature = 0, r(-1, 200) }, map[string]api.Errno{"Net": api.ErrState, "Density": api.ErrRange, "Grades": api.ErrRange, "Worth": api.ErrRange}},
	} {
		for name, e := range tested(usual(), testWith(c.change)) {
			sameErr(t, fmt.Sprint(i, name), e, c.want[name])
		}
	}
}
