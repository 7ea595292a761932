package barrel_test

import (
	"fmt"
	"slices"
	"testing"

	"spile/api"
	"spile/barrel"
	"spile/span"
)

func TestP8_2Grade(t *testing.T) {
	syrup := func(density, light, flavour int) api.Syrup {
		return api.Syrup{Density: density, Light: light, Flavour: flavour}
	}
	for _, c := range []struct {
		s    api.Syrup
		want int
	}{
		{syrup(6650, 750, 1), 0}, {syrup(6650, 750, 3), 0}, {syrup(6650, 750, 4), -1}, {syrup(6650, 750, 0), -1}, {syrup(6650, 1000, 2), 0}, {syrup(6650, 1001, 2), 0}, {syrup(6650, high, 2), 0},
		{syrup(6650, 749, 2), 1}, {syrup(6650, 749, 1), -1}, {syrup(6650, 749, 5), 1}, {syrup(6650, 749, 6), -1}, {syrup(6650, 500, 2), 1}, {syrup(6650, 600, 3), 1}, {syrup(6650, 600, 1), -1},
		{syrup(6650, 499, 3), 2}, {syrup(6650, 499, 9), 2}, {syrup(6650, 499, 2), -1}, {syrup(6650, 499, 10), -1}, {syrup(6650, 250, 5), 2}, {syrup(6650, 249, 5), -1}, {syrup(6650, 0, 5), -1}, {syrup(6650, -1, 5), -1}, {syrup(6650, low, 5), -1},
		{syrup(6600, 750, 3), 0}, {syrup(6599, 750, 3), -1}, {syrup(6890, 750, 3), 0}, {syrup(6891, 750, 3), -1}, {syrup(low, 750, 3), -1}, {syrup(high, 750, 3), -1}, {syrup(0, 750, 3), -1}, {syrup(-1, 750, 3), -1},
		{syrup(6650, 750, low), -1}, {syrup(6650, 750, high), -1}, {syrup(6650, 300, low), -1}, {syrup(6650, 300, high), -1}, {syrup(high, high, high), -1}, {syrup(low, low, low), -1},
	} {
		grade, e := barrel.Grade(usual(), c.s)
		same(t, fmt.Sprint("Grade ", c.s), grade, e, c.want, api.OK)
		c.s.Bad = true
		grade, e = barrel.Grade(usual(), c.s)
		same(t, fmt.Sprint("Grade ", c.s), grade, e, -1, api.OK)
	}
	bad := rulesWith(func(l *api.GradeRules) { l.Bad = 0 })
	grade, e := barrel.Grade(bad, syrup(6650, 750, 3))
	same(t, "Grade by rules that are not valid", grade, e, 0, api.ErrArg)
}

// TestP8_2OneClass has the fewest classes, the most, and lights at the ends of what there is.
func TestP8_2OneClass(t *testing.T) {
	single := rulesWith(func(l *api.GradeRules) { l.Classes = classes(class(0, r(1, 9), 0)) })
	for light, want := range map[int]int{-1: -1, 0: 0, 1000: 0, low: -1, high: 0} {
		grade, e := barrel.Grade(single, api.Syrup{Density: 6600, Light: light, Flavour: 9})
		same(t, fmt.Sprint("Grade of the light ", light), grade, e, want, api.OK)
	}
	full := rulesWith(func(l *api.GradeRules) { l.Classes = manyClasses(8) })
	for i := range 8 {
		for light, want := range map[int]int{900 - 100*i: i, 999 - 100*i: i} {
			grade, e := barrel.Grade(full, api.Syrup{Density: 6600, Light: light, Flavour: 1})
			same(t, fmt.Sprint("Grade of the light ", light), grade, e, want, api.OK)
		}
	}
	grade, e := barrel.Grade(full, api.Syrup{Density: 6600, Light: 199, Flavour: 1})
	same(t, "Grade below all classes", grade, e, -1, api.OK)
}

func TestP8_2Definitions(t *testing.T) {
	d := dice()
	seen := map[int]int{}
	for range 30000 {
		l := anyRules(d)
		x := api.Syrup{Density: pick(d, 44, 64), Light: pick(d, -2, 70), Flavour: pick(d, 0, 10), Bad: d.IntN(4) == 0}
		want := gradeOf(l, within(l.Density, x.Density), x.Light, x.Flavour, x.Bad)
		grade, e := barrel.Grade(l, x)
		same(t, fmt.Sprint("Grade ", l, x), grade, e, want, api.OK)
		seen[want]++
	}
	for grade := -1; grade < 4; grade++ {
		if seen[grade] < 200 {
			t.Error("too few:", grade, seen[grade])
		}
	}
}

func TestP8_3Net(t *testing.T) {
	for _, c := range []struct {
		scale, gross, tare int
		want               api.Range
		e                  api.Errno
	}{
		{100, 30000, 2000, r(27800, 28200), api.OK}, {0, 30000, 2000, one(28000), api.OK},
		{100, 2000, 2000, r(0, 200), api.OK}, {100, 1999, 2000, api.Range{}, api.ErrState}, {100, 0, ton, api.Range{}, api.ErrState}, {ton, 1999, 2000, api.Range{}, api.ErrState}, {0, 1999, 2000, api.Range{}, api.ErrState}, {0, 2000, 2000, one(0), api.OK}, {0, 0, 0, one(0), api.OK},
		{100, 2050, 2000, r(0, 250), api.OK}, {100, 2100, 2000, r(0, 300), api.OK}, {100, 2199, 2000, r(0, 399), api.OK}, {100, 2200, 2000, r(0, 400), api.OK}, {100, 2201, 2000, r(1, 401), api.OK}, {1, 1, 0, r(0, 3), api.OK}, {1, 3, 0, r(1, 5), api.OK},
		{ton, ton, 0, r(0, 3*ton), api.OK}, {0, ton, 0, one(ton), api.OK}, {ton, 0, 0, r(0, 2*ton), api.OK}, {1, ton, ton, r(0, 2), api.OK}, {ton / 2, ton, 0, r(0, 2*ton), api.OK}, {ton/2 - 1, ton, 0, r(2, 2*ton-2), api.OK},
	} {
		l := rulesWith(func(l *api.GradeRules) { l.Scale = c.scale })
		sameNet(t, l, testWith(func(b *api.BarrelTest) { b.Gross, b.Tare = c.gross, c.tare }), c.want, c.e)
	}
}

// TestP8_3NetDefinitions weighs with each number by which the scale can be off.
func TestP8_3NetDefinitions(t *testing.T) {
	for scale := range 5 {
		for gross := range 30 {
			for tare := range gross + 1 {
				var all []int
				for a := -scale; a <= scale; a++ {
					for b := -scale; b <= scale; b++ {
						all = append(all, max(0, gross+a-tare-b))
					}
				}
				l := rulesWith(func(l *api.GradeRules) { l.Scale = scale })
				sameNet(t, l, testWith(func(b *api.BarrelTest) { b.Gross, b.Tare = gross, tare }), r(slices.Min(all), slices.Max(all)), api.OK)
			}
		}
	}
}

func TestP8_3Density(t *testing.T) {
	usualTable := table(0, -50, 200, 0, 400, 100)
	deep := table(-100, 0, 0, -10000, 100, 10000, 101, 0)
	for _, c := range []struct {
		table              []api.Row
		hydro, temperature api.Range
		want               api.Range
		e                  api.Errno
	}{
		{usualTable, r(6640, 6650), r(180, 220), r(6635, 6660), api.OK}, {usualTable, r(6640, 6650), one(200), r(6640, 6650), api.OK}, {usualTable, one(6640), one(181), r(6635, 6636), api.OK}, {usualTable, one(6640), one(201), r(6640, 6641), api.OK},
		{usualTable, one(6640), one(0), one(6590), api.OK}, {usualTable, one(6640), one(400), one(6740), api.OK}, {usualTable, one(6640), r(0, 400), r(6590, 6740), api.OK}, {usualTable, one(6640), r(-1, 400), api.Range{}, api.ErrRange}, {usualTable, one(6640), r(0, 401), api.Range{}, api.ErrRange}, {usualTable, one(6640), one(-1), api.Range{}, api.ErrRange}, {usualTable, one(6640), one(401), api.Range{}, api.ErrRange}, {usualTable, one(6640), r(-api.MaxSpan, api.MaxSpan), api.Range{}, api.ErrRange}, {usualTable, one(6640), one(api.MaxSpan), api.Range{}, api.ErrRange},
		{usualTable, r(0, 10), one(0), r(-50, -40), api.OK}, {usualTable, r(9990, 10000), one(400), r(10090, 10100), api.OK},
		{deep, r(0, 10000), r(-100, 101), r(-10000, 20000), api.OK}, {deep, one(10000), one(100), one(20000), api.OK}, {deep, one(0), one(0), one(-10000), api.OK}, {deep, one(5), r(-50, 25), r(-9995, 5-5000), api.OK}, {deep, one(5), r(-1, 1), r(-9995, 5-9800), api.OK}, {deep, one(5), r(100, 101), r(5, 10005), api.OK},
	} {
		l := rulesWith(func(l *api.GradeRules) { l.Correction = c.table })
		sameDensity(t, l, testWith(func(b *api.BarrelTest) { b.Hydro, b.Temperature = c.hydro, c.temperature }), c.want, c.e)
	}
}

// TestP8_3DensityCalls compares with the calls that the chapter names, and with the value at each temperature.
func TestP8_3DensityCalls(t *testing.T) {
	d := dice()
	for range 3000 {
		l := anyRules(d)
		b := anyTest(d, l)
		sameDensity(t, l, b, densityOf(l, b), api.OK)
		if d.IntN(4) == 0 {
			b.Temperature = pickRange(d, -30, 60)
		}
		values, wantErr := span.Values(l.Correction, b.Temperature)
		var want api.Range
		if wantErr == api.OK {
			want, wantErr = span.Sum([]api.Range{b.Hydro, values})
		}
		sameDensity(t, l, b, want, wantErr)
	}
}

func TestP8_4Panel(t *testing.T) {
	no := func(l ...api.Range) []api.Taster {
		var all []api.Taster
		for _, a := range l {
			all = append(all, taster(a))
		}
		return all
	}
	find := func(l ...int) []api.Taster { // Sure, Perhaps, Sure, Perhaps ..
		var all []api.Taster
		for i := 0; i < len(l); i += 2 {
			all = append(all, tastes(one(3), l[i], l[i+1]))
		}
		return all
	}
	for _, c := range []struct {
		bad   int
		panel []api.Taster
		want  told
	}{
		{2, no(one(2), r(3, 4), one(3)), told{one(3), 0, 0}}, {2, no(r(1, 9)), told{r(1, 9), 0, 0}}, {2, no(one(7)), told{one(7), 0, 0}},
		{2, no(one(9), one(1)), told{one(1), 0, 0}}, {2, no(r(2, 6), r(3, 4)), told{r(2, 4), 0, 0}}, {2, no(r(3, 4), r(2, 6)), told{r(2, 4), 0, 0}}, {2, no(r(1, 2), r(8, 9)), told{r(1, 2), 0, 0}},
		{2, no(one(9), one(1), one(5)), told{one(5), 0, 0}}, {2, no(r(1, 9), one(5), one(5)), told{one(5), 0, 0}}, {2, no(r(1, 9), r(1, 9), one(5)), told{r(1, 9), 0, 0}}, {2, no(r(1, 9), one(4), one(6)), told{r(4, 6), 0, 0}}, {2, no(r(5, 6), r(1, 2), r(8, 9)), told{r(5, 6), 0, 0}}, {2, no(r(1, 5), r(2, 6), r(3, 4)), told{r(2, 5), 0, 0}},
		{2, no(one(9), one(8), one(2), one(1)), told{one(2), 0, 0}}, {2, no(r(8, 9), r(7, 9), r(1, 3), r(2, 3)), told{r(2, 3), 0, 0}}, {2, no(r(1, 9), one(2), one(8), r(1, 9)), told{r(1, 8), 0, 0}},
		{2, append(times(10, taster(one(2))), times(10, taster(one(8)))...), told{one(2), 0, 0}}, {2, append(times(9, taster(one(2))), times(11, taster(one(8)))...), told{one(8), 0, 0}}, {2, append(times(10, taster(one(8))), times(10, taster(r(1, 9)))...), told{r(1, 8), 0, 0}},
		{1, find(0, 0), told{one(3), 0, 0}}, {1, find(1, 1), told{one(3), 1, 1}}, {1, find(0, 1), told{one(3), 1, 0}}, {1, find(128, 255), told{one(3), 255, 128}}, {1, find(255, 255), told{one(3), 255, 255}}, {1, find(1, 3, 4, 12), told{one(3), 15, 5}},
		{2, find(1, 1), told{one(3), 0, 0}}, {2, find(255, 255), told{one(3), 0, 0}}, {2, find(1, 1, 1, 1), told{one(3), 1, 1}}, {2, find(1, 1, 0, 1), told{one(3), 1, 0}}, {2, find(0, 1, 0, 1), told{one(3), 1, 0}}, {2, find(1, 1, 2, 2), told{one(3), 0, 0}}, {2, find(1, 3, 2, 3), told{one(3), 3, 0}}, {2, find(128, 128, 0, 0, 128, 128), told{one(3), 128, 128}}, {2, find(6, 7, 3, 11, 2, 2), told{one(3), 3, 2}},
		{3, find(1, 1, 1, 1, 0, 1), told{one(3), 1, 0}}, {3, find(1, 1, 1, 1, 0, 0), told{one(3), 0, 0}}, {3, find(1, 1, 1, 1, 1, 1), told{one(3), 1, 1}}, {3, find(1, 1, 1, 1, 1, 1, 1, 1), told{one(3), 1, 1}},
		{20, times(20, tastes(one(3), 16, 48)), told{one(3), 48, 16}}, {20, append(times(19, tastes(one(3), 16, 48)), tastes(one(3), 0, 16)), told{one(3), 16, 0}}, {20, times(19, tastes(one(3), 16, 48)), told{one(3), 0, 0}}, {1, append(times(19, taster(one(3))), tastes(one(3), 64, 64)), told{one(3), 64, 64}},
	} {
		l := rulesWith(func(l *api.GradeRules) { l.Bad = c.bad })
		samePanel(t, l, testWith(func(b *api.BarrelTest) { b.Panel = c.panel }), c.want, api.OK)
		slices.Reverse(c.panel)
		samePanel(t, l, testWith(func(b *api.BarrelTest) { b.Panel = c.panel }), c.want, api.OK)
	}
}

// TestP8_4NoOther shows that Panel asks for nothing but valid rules and a valid test.
func TestP8_4NoOther(t *testing.T) {
	b := testWith(func(b *api.BarrelTest) { b.Gross, b.Temperature = 0, one(401) })
	samePanel(t, usual(), b, told{one(3), 0, 0}, api.OK)
}

func TestP8_4Definitions(t *testing.T) {
	d := dice()
	seen := map[string]int{}
	for range 5000 {
		l := anyRules(d)
		b := anyTest(d, l)
		for i := range b.Panel {
			if d.IntN(3) == 0 {
				b.Panel[i].Flavour = pickRange(d, 1, 9)
			}
		}
		flavour, possibly, surely := panelOf(l, b.Panel)
		samePanel(t, l, b, told{flavour, possibly, surely}, api.OK)
		reached := map[int]bool{}
		eachSaid(b.Panel, nil, func(said []int) { reached[strengthOf(said)] = true })
		if len(reached) != flavour.High-flavour.Low+1 {
			t.Fatal("not each strength of the range is reached:", b.Panel, reached, flavour)
		}
		seen[fmt.Sprint(possibly > 0, surely > 0)]++
		seen[fmt.Sprint(flavour.High-flavour.Low)]++
	}
	for _, what := range []string{"false false", "true false", "true true", "0", "1", "2", "3", "4"} {
		if seen[what] < 100 {
			t.Error("too few:", what, seen[what])
		}
	}
}

func TestP8_5Grades(t *testing.T) {
	bad := func(sure, perhaps int) api.Taster { return tastes(one(3), sure, perhaps) }
	for i, c := range []struct {
		change func(b *api.BarrelTest)
		want   []int
	}{
		{func(b *api.BarrelTest) {}, list(0, 1)}, {func(b *api.BarrelTest) { b.Light = r(750, 760) }, list(0)}, {func(b *api.BarrelTest) { b.Light = one(750) }, list(0)}, {func(b *api.BarrelTest) { b.Light = one(749) }, list(1)}, {func(b *api.BarrelTest) { b.Light = r(749, 750) }, list(0, 1)}, {func(b *api.BarrelTest) { b.Light = r(500, 749) }, list(1)}, {func(b *api.BarrelTest) { b.Light = r(499, 749) }, list(1, 2)}, {func(b *api.BarrelTest) { b.Light = r(499, 750) }, list(0, 1, 2)}, {func(b *api.BarrelTest) { b.Light = r(0, 1000) }, list(-1, 0, 1, 2)}, {func(b *api.BarrelTest) { b.Light = r(249, 250) }, list(-1, 2)}, {func(b *api.BarrelTest) { b.Light = r(0, 249) }, list(-1)}, {func(b *api.BarrelTest) { b.Light = one(0) }, list(-1)}, {func(b *api.BarrelTest) { b.Light = one(1000) }, list(0)},
		{func(b *api.BarrelTest) { b.Panel = panel(taster(one(1))) }, list(-1, 0)}, {func(b *api.BarrelTest) { b.Panel = panel(taster(one(4))) }, list(-1, 1)}, {func(b *api.BarrelTest) { b.Panel = panel(taster(r(3, 4))) }, list(-1, 0, 1)}, {func(b *api.BarrelTest) { b.Panel = panel(taster(one(6))) }, list(-1)}, {func(b *api.BarrelTest) { b.Panel = panel(taster(r(5, 6))) }, list(-1, 1)}, {func(b *api.BarrelTest) { b.Panel = panel(taster(r(2, 3))) }, list(0, 1)}, {func(b *api.BarrelTest) { b.Panel, b.Light = panel(taster(r(1, 2))), one(250) }, list(-1)}, {func(b *api.BarrelTest) { b.Panel, b.Light = panel(taster(r(2, 3))), one(250) }, list(-1, 2)}, {func(b *api.BarrelTest) { b.Panel, b.Light = panel(taster(r(9, 9))), r(250, 499) }, list(2)}, {func(b *api.BarrelTest) { b.Panel, b.Light = panel(taster(r(1, 9))), r(250, 499) }, list(-1, 2)}, {func(b *api.BarrelTest) { b.Panel, b.Light = panel(taster(one(6))), r(250, 760) }, list(-1, 2)},
		{func(b *api.BarrelTest) { b.Hydro = r(6605, 6880) }, list(0, 1)}, {func(b *api.BarrelTest) { b.Hydro = r(6604, 6880) }, list(-1, 0, 1)}, {func(b *api.BarrelTest) { b.Hydro = r(6605, 6881) }, list(-1, 0, 1)}, {func(b *api.BarrelTest) { b.Hydro = r(6500, 6589) }, list(-1)}, {func(b *api.BarrelTest) { b.Hydro = r(6500, 6590) }, list(-1, 0, 1)}, {func(b *api.BarrelTest) { b.Hydro = r(6895, 7000) }, list(-1, 0, 1)}, {func(b *api.BarrelTest) { b.Hydro = r(6896, 7000) }, list(-1)}, {func(b *api.BarrelTest) { b.Hydro = r(0, 10000) }, list(-1, 0, 1)}, {func(b *api.BarrelTest) { b.Hydro, b.Temperature = r(6650, 6890), one(0) }, list(0, 1)}, {func(b *api.BarrelTest) { b.Hydro, b.Temperature = r(6649, 6890), one(0) }, list(-1, 0, 1)}, {func(b *api.BarrelTest) { b.Hydro, b.Temperature = r(6650, 6791), one(400) }, list(-1, 0, 1)}, {func(b *api.BarrelTest) { b.Hydro, b.Temperature = r(6650, 6790), one(400) }, list(0, 1)},
		{func(b *api.BarrelTest) { b.Panel[0].Perhaps, b.Panel[1].Perhaps, b.Panel[1].Sure = 1, 1, 1 }, list(-1, 0, 1)}, {func(b *api.BarrelTest) { b.Panel = panel(bad(1, 1), bad(1, 1), bad(0, 0)) }, list(-1)}, {func(b *api.BarrelTest) { b.Panel = panel(bad(1, 1), bad(2, 2), bad(4, 4)) }, list(0, 1)}, {func(b *api.BarrelTest) { b.Panel = panel(bad(1, 3), bad(2, 2), bad(4, 4)) }, list(-1, 0, 1)}, {func(b *api.BarrelTest) { b.Panel = panel(bad(129, 129), bad(128, 130), bad(0, 4)) }, list(-1)}, {func(b *api.BarrelTest) { b.Panel = panel(bad(0, 255), bad(0, 0), bad(0, 0)) }, list(0, 1)}, {func(b *api.BarrelTest) { b.Panel = panel(bad(0, 255), bad(0, 128), bad(0, 0)) }, list(-1, 0, 1)}, {func(b *api.BarrelTest) { b.Panel, b.Light = panel(bad(0, 1), bad(0, 1)), one(750) }, list(-1, 0)}, {func(b *api.BarrelTest) {
			b.Panel, b.Light = panel(bad(1, 1), bad(1, 1), bad(0, 2), bad(0, 2)), one(750)
		}, list(-1)}, {func(b *api.BarrelTest) { b.Panel, b.Light = panel(bad(0, 1), bad(0, 1)), one(0) }, list(-1)},
		{func(b *api.BarrelTest) { b.Gross = 0 }, list(0, 1)},
	} {
		b := testWith(c.change)
		sameGrades(t, usual(), b, c.want, api.OK)
		if want := gradesOf(usual(), b); !slices.Equal(want, c.want) {
			t.Error(i, "by the definitions:", want, c.want)
		}
	}
}

// TestP8_5Between has classes of which one between two others, or none of them, is reached.
func TestP8_5Between(t *testing.T) {
	l := rulesWith(func(l *api.GradeRules) {
		l.Classes = classes(class(600, one(5), 5), class(599, one(6), 6), class(598, one(5), 7), class(10, one(7), 8), class(0, r(5, 6), 9))
	})
	for _, c := range []struct {
		light, flavour api.Range
		want           []int
	}{
		{r(598, 600), one(5), list(-1, 0, 2)}, {r(598, 600), one(6), list(-1, 1)}, {r(598, 600), r(5, 6), list(-1, 0, 1, 2)}, {one(599), r(5, 6), list(-1, 1)}, {one(599), one(6), list(1)}, {one(598), one(6), list(-1)}, {r(0, 1000), one(5), list(-1, 0, 2, 4)}, {r(0, 1000), one(7), list(-1, 3)}, {r(0, 1000), one(8), list(-1)}, {r(0, 9), r(5, 6), list(4)}, {r(0, 9), r(5, 7), list(-1, 4)}, {r(9, 10), r(6, 7), list(-1, 3, 4)}, {r(10, 597), one(7), list(3)}, {r(10, 598), one(7), list(-1, 3)}, {r(9, 597), one(7), list(-1, 3)}, {r(0, 1000), r(1, 9), list(-1, 0, 1, 2, 3, 4)},
	} {
		sameGrades(t, l, testWith(func(b *api.BarrelTest) { b.Light, b.Panel = c.light, panel(taster(c.flavour)) }), c.want, api.OK)
	}
}

// TestP8_5Many has as many classes as there can be, and as many grades.
func TestP8_5Many(t *testing.T) {
	l := rulesWith(func(l *api.GradeRules) { l.Classes = manyClasses(8) })
	sameGrades(t, l, testWith(func(b *api.BarrelTest) { b.Light = r(0, 1000) }), list(-1, 0, 1, 2, 3, 4, 5, 6, 7), api.OK)
	sameGrades(t, l, testWith(func(b *api.BarrelTest) { b.Light = r(200, 1000) }), list(0, 1, 2, 3, 4, 5, 6, 7), api.OK)
	sameGrades(t, l, testWith(func(b *api.BarrelTest) { b.Light = r(0, 200) }), list(-1, 7), api.OK)
}

func TestP8_5Errors(t *testing.T) {
	sameGrades(t, usual(), testWith(func(b *api.BarrelTest) { b.Temperature = r(0, 401) }), nil, api.ErrRange)
	sameGrades(t, usual(), testWith(func(b *api.BarrelTest) { b.Temperature = r(1, 0) }), nil, api.ErrArg)
	sameGrades(t, rulesWith(func(l *api.GradeRules) { l.Bad = 0 }), usualTest(), nil, api.ErrArg)
}

// TestP8_5Definitions compares with the grades of all truths.
func TestP8_5Definitions(t *testing.T) {
	d := dice()
	seen := map[string]int{}
	for range 8000 {
		l := anyRules(d)
		b := anyTest(d, l)
		want := gradesOf(l, b)
		sameGrades(t, l, b, want, api.OK)
		seen[fmt.Sprint(len(want))]++
		if len(want) == 1 {
			seen[fmt.Sprint("only ", min(0, want[0]))]++
		}
		for i := 1; i < len(want); i++ {
			if want[i-1] >= 0 && want[i] > want[i-1]+1 {
				seen["gap"]++
			}
		}
	}
	for _, what := range []string{"1", "2", "3", "4", "only 0", "only -1", "gap"} {
		if seen[what] < 100 {
			t.Error("too few:", what, seen[what])
		}
	}
}

func TestP8_6Worth(t *testing.T) {
	rising := rulesWith(func(l *api.GradeRules) { l.Classes[0].Price, l.Classes[2].Price = 700, 900 })
	dear := rulesWith(func(l *api.GradeRules) { l.Price = 1000000 })
	free := rulesWith(func(l *api.GradeRules) { l.Price, l.Classes[0].Price, l.Classes[1].Price = 0, 0, 0 })
	exact := rulesWith(func(l *api.GradeRules) { l.Scale = 0 })
	heavy := rulesWith(func(l *api.GradeRules) { l.Scale, l.Price, l.Classes[0].Price = ton, 1000000, 1000000 })
	weighed := func(gross int, light api.Range) api.BarrelTest {
		return testWith(func(b *api.BarrelTest) { b.Gross, b.Tare, b.Light = gross, 0, light })
	}
	perhaps := testWith(func(b *api.BarrelTest) { b.Panel[0].Perhaps, b.Panel[1].Perhaps, b.Panel[1].Sure = 1, 1, 1 })
	for _, c := range []struct {
		l    api.GradeRules
		b    api.BarrelTest
		want api.Range
		e    api.Errno
	}{
		{usual(), perhaps, r(8340, 25380), api.OK}, {usual(), usualTest(), r(22240, 25380), api.OK}, {rising, usualTest(), r(19460, 22560), api.OK}, {rising, perhaps, r(8340, 22560), api.OK}, {dear, perhaps, r(22240, 28200000), api.OK}, {free, perhaps, one(0), api.OK}, {usual(), weighed(0, one(800)), r(0, 180), api.OK}, {usual(), weighed(0, one(0)), r(0, 60), api.OK},
		{exact, weighed(1, one(800)), r(0, 1), api.OK}, {exact, weighed(1000, one(800)), one(900), api.OK}, {exact, weighed(1001, one(800)), r(900, 901), api.OK}, {exact, weighed(999, one(800)), r(899, 900), api.OK}, {exact, weighed(1110, one(800)), one(999), api.OK}, {exact, weighed(0, one(800)), one(0), api.OK}, {exact, weighed(1001, r(400, 800)), r(700, 901), api.OK}, {exact, weighed(1003, r(0, 400)), r(300, 703), api.OK}, {exact, weighed(1, one(0)), r(0, 1), api.OK},
		{heavy, weighed(ton, one(800)), r(0, 3*ton*1000), api.OK}, {heavy, weighed(ton, one(0)), r(0, 3*ton*1000), api.OK},
		{usual(), testWith(func(b *api.BarrelTest) { b.Gross = 1999 }), api.Range{}, api.ErrState}, {usual(), testWith(func(b *api.BarrelTest) { b.Gross, b.Temperature = 1999, one(401) }), api.Range{}, api.ErrRange}, {usual(), testWith(func(b *api.BarrelTest) { b.Temperature = one(-1) }), api.Range{}, api.ErrRange},
	} {
		sameWorth(t, c.l, c.b, c.want, c.e)
	}
}

// TestP8_6Definitions compares with prices and grams by the definitions.
func TestP8_6Definitions(t *testing.T) {
	d := dice()
	for range 5000 {
		l := anyRules(d)
		b := anyTest(d, l)
		var prices []int
		for _, grade := range gradesOf(l, b) {
			prices = append(prices, priceOf(l, grade))
		}
		least := slices.Min(prices) * max(0, b.Gross-b.Tare-2*l.Scale)
		most := slices.Max(prices) * (b.Gross - b.Tare + 2*l.Scale)
		want := r(least/1000, most/1000)
		if most%1000 > 0 {
			want.High++
		}
		sameWorth(t, l, b, want, api.OK)
	}
}

func TestP8_7Intact(t *testing.T) {
	for _, c := range []struct {
		scale int
		a, b  api.Weighing
		want  bool
		e     api.Errno
	}{
		{100, api.Weighing{Gross: 30000, Seal: 7}, api.Weighing{Gross: 30000, Seal: 7}, true, api.OK}, {100, api.Weighing{Gross: 30000, Seal: 7}, api.Weighing{Gross: 30200, Seal: 7}, true, api.OK}, {100, api.Weighing{Gross: 30000, Seal: 7}, api.Weighing{Gross: 30201, Seal: 7}, false, api.OK}, {100, api.Weighing{Gross: 30000, Seal: 7}, api.Weighing{Gross: 30000, Seal: 8}, false, api.OK}, {100, api.Weighing{Gross: 30000, Seal: 7}, api.Weighing{Gross: 30201, Seal: 8}, false, api.OK},
		{100, api.Weighing{Seal: low}, api.Weighing{Gross: 200, Seal: low}, true, api.OK}, {100, api.Weighing{Seal: high}, api.Weighing{Gross: 200, Seal: low}, false, api.OK}, {100, api.Weighing{Seal: -1}, api.Weighing{Seal: 1}, false, api.OK}, {100, api.Weighing{Seal: 1 << 40}, api.Weighing{}, false, api.OK},
		{0, api.Weighing{Gross: 5}, api.Weighing{Gross: 5}, true, api.OK}, {0, api.Weighing{Gross: 5}, api.Weighing{Gross: 6}, false, api.OK}, {ton, api.Weighing{Gross: ton}, api.Weighing{}, true, api.OK}, {ton / 2, api.Weighing{Gross: ton}, api.Weighing{}, true, api.OK}, {ton/2 - 1, api.Weighing{Gross: ton}, api.Weighing{}, false, api.OK},
		{100, api.Weighing{Gross: -1}, api.Weighing{}, false, api.ErrRange}, {100, api.Weighing{Gross: ton + 1}, api.Weighing{Gross: ton}, false, api.ErrRange}, {100, api.Weighing{Gross: low}, api.Weighing{Gross: high}, false, api.ErrRange}, {100, api.Weighing{Gross: high, Seal: 1}, api.Weighing{Gross: high}, false, api.ErrRange}, {100, api.Weighing{Gross: -1, Seal: 1}, api.Weighing{}, false, api.ErrRange},
		{-1, api.Weighing{Gross: -1}, api.Weighing{}, false, api.ErrArg}, {ton + 1, api.Weighing{}, api.Weighing{}, false, api.ErrArg},
	} {
		l := rulesWith(func(l *api.GradeRules) { l.Scale = c.scale })
		for _, w := range [][2]api.Weighing{{c.a, c.b}, {c.b, c.a}} {
			intact, e := barrel.Intact(l, w[0], w[1])
			same(t, fmt.Sprint("Intact ", c.scale, w), intact, e, c.want, c.e)
		}
	}
}

// TestP8_7Definitions weighs one barrel twice, with each number by which the scale can be off.
func TestP8_7Definitions(t *testing.T) {
	for scale := range 6 {
		l := rulesWith(func(l *api.GradeRules) { l.Scale = scale })
		for a := range 25 {
			for b := range 25 {
				can := false
				for truth := -10; truth < 35; truth++ {
					can = can || max(truth-a, a-truth) <= scale && max(truth-b, b-truth) <= scale
				}
				intact, e := barrel.Intact(l, api.Weighing{Gross: a, Seal: 3}, api.Weighing{Gross: b, Seal: 3})
				same(t, fmt.Sprint("Intact ", scale, a, b), intact, e, can, api.OK)
			}
		}
	}
}
