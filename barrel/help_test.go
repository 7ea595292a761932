package barrel_test

import (
	"fmt"
	"math/rand/v2"
	"slices"
	"testing"

	"spile/api"
	"spile/barrel"
	"spile/span"
)

const (
	low  = -1 << 63
	high = 1<<63 - 1
	ton  = api.MaxBarrel
)

// r returns a range, and one returns the range of one number.
func r(low, high int) api.Range { return api.Range{Low: low, High: high} }

func one(n int) api.Range { return r(n, n) }

func list(l ...int) []int { return l }

func s(water, sugar int) api.Sap { return api.Sap{Water: water, Sugar: sugar} }

func mass(a api.Sap) int { return a.Water + a.Sugar }

// table returns rows of X, Y, X, Y ..
func table(n ...int) []api.Row {
	var t []api.Row
	for i := 0; i+1 < len(n); i += 2 {
		t = append(t, api.Row{X: n[i], Y: n[i+1]})
	}
	return t
}

// rows returns a table of so many rows.
func rows(n int) []api.Row {
	var t []api.Row
	for x := range n {
		t = append(t, api.Row{X: x, Y: x})
	}
	return t
}

// class returns a class, and classes returns several ones.
func class(least int, flavour api.Range, price int) api.GradeClass {
	return api.GradeClass{Least: least, Flavour: flavour, Price: price}
}

func classes(l ...api.GradeClass) []api.GradeClass { return l }

// manyClasses returns so many classes, of any flavour.
func manyClasses(n int) []api.GradeClass {
	var l []api.GradeClass
	for i := range n {
		l = append(l, class(900-100*i, r(1, 9), 1000-i))
	}
	return l
}

// taster returns a taster, tastes one who finds a bad taste, and panel a panel.
func taster(flavour api.Range) api.Taster { return api.Taster{Flavour: flavour} }

func tastes(flavour api.Range, sure, perhaps int) api.Taster {
	return api.Taster{Flavour: flavour, Sure: sure, Perhaps: perhaps}
}

func panel(l ...api.Taster) []api.Taster { return l }

// keg returns a keg, and kegs returns several ones.
func keg(water, sugar, light, flavour int) api.Keg {
	return api.Keg{Sap: s(water, sugar), Light: light, Flavour: flavour}
}

func kegs(l ...api.Keg) []api.Keg { return l }

// takes returns what is taken: From, Mass, From, Mass ..
func takes(n ...int) []api.Take {
	var l []api.Take
	for i := 0; i+1 < len(n); i += 2 {
		l = append(l, api.Take{From: n[i], Mass: n[i+1]})
	}
	return l
}

// times returns a list of so many equal things.
func times[T any](n int, x T) []T { return slices.Repeat([]T{x}, n) }

// usual are the rules of the chapter's examples, and usualTest is the test.
func usual() api.GradeRules {
	return api.GradeRules{
		Correction: table(0, -50, 200, 0, 400, 100), Density: r(6600, 6890),
		Classes: classes(class(750, r(1, 3), 900), class(500, r(2, 5), 800), class(250, r(3, 9), 700)),
		Bad:     2, Scale: 100, Price: 300,
	}
}

func usualTest() api.BarrelTest {
	return api.BarrelTest{
		Gross: 30000, Tare: 2000, Hydro: r(6640, 6650), Temperature: r(180, 220), Light: r(740, 760),
		Panel: panel(taster(one(2)), taster(r(3, 4)), taster(one(3))),
	}
}

// rulesWith changes what the usual rules have, and testWith what the usual test has.
func rulesWith(change func(l *api.GradeRules)) api.GradeRules {
	l := usual()
	change(&l)
	return l
}

func testWith(change func(b *api.BarrelTest)) api.BarrelTest {
	b := usualTest()
	change(&b)
	return b
}

// dice returns numbers that are the same in each run.
func dice() *rand.Rand { return rand.New(rand.NewPCG(1, 13)) }

// pick returns a number from a to b.
func pick(d *rand.Rand, a, b int) int { return a + d.IntN(b-a+1) }

// pickRange returns a range within a to b.
func pickRange(d *rand.Rand, a, b int) api.Range {
	x, y := pick(d, a, b), pick(d, a, b)
	return r(min(x, y), max(x, y))
}

// narrow returns a range within another one.
func narrow(d *rand.Rand, a api.Range) api.Range { return pickRange(d, a.Low, a.High) }

// truly returns a number of a range.
func truly(d *rand.Rand, a api.Range) int { return pick(d, a.Low, a.High) }

// within reports whether a number is in a range.
func within(a api.Range, n int) bool { return a.Low <= n && n <= a.High }

// anyRules returns rules whose classes, densities and corrections lie close together.
func anyRules(d *rand.Rand) api.GradeRules {
	l := api.GradeRules{Density: r(pick(d, 46, 54), pick(d, 55, 62)), Bad: pick(d, 1, 3), Scale: pick(d, 0, 9), Price: pick(d, 0, 9)}
	x := pick(d, -20, 0)
	for range pick(d, 2, 5) {
		l.Correction = append(l.Correction, api.Row{X: x, Y: pick(d, -6, 6)})
		x += pick(d, 1, 15)
	}
	least := pick(d, 30, 60)
	for range pick(d, 1, 8) {
		flavour := pickRange(d, 1, 9)
		if d.IntN(3) == 0 {
			flavour = r(1, pick(d, 5, 9))
		}
		l.Classes = append(l.Classes, class(least, flavour, pick(d, 0, 9)))
		if least -= pick(d, 1, 12); least < 0 {
			break
		}
	}
	return l
}

// anyTest returns a test of a barrel in the temperatures of rules.
func anyTest(d *rand.Rand, l api.GradeRules) api.BarrelTest {
	first, last := l.Correction[0].X, l.Correction[len(l.Correction)-1].X
	b := api.BarrelTest{Tare: pick(d, 0, 900), Temperature: pickRange(d, first, last)}
	b.Gross = b.Tare + pick(d, 0, 3000)
	b.Hydro.Low, b.Light.Low = pick(d, 45, 62), pick(d, 0, 70)
	b.Hydro.High, b.Light.High = b.Hydro.Low+pick(d, 0, 4), b.Light.Low+pick(d, 0, pick(d, 0, 40))
	clean := d.IntN(3) > 0
	for range pick(d, 1, 4) {
		t := api.Taster{Flavour: one(pick(d, 1, 9))}
		if d.IntN(2) == 0 {
			t.Flavour.High = min(9, t.Flavour.Low+pick(d, 0, 2))
		}
		if !clean {
			t.Perhaps = d.IntN(256) & d.IntN(256) & d.IntN(256)
			t.Sure = t.Perhaps & d.IntN(256) & d.IntN(256)
		}
		b.Panel = append(b.Panel, t)
	}
	return b
}

// gradeOf returns the grade of syrup by the definition, if it is dense as the rules want it, or is not.
func gradeOf(l api.GradeRules, dense bool, light, flavour int, bad bool) int {
	for i, c := range l.Classes {
		if light >= c.Least {
			if dense && !bad && within(c.Flavour, flavour) {
				return i
			}
			return -1
		}
	}
	return -1
}

// priceOf returns the price of a grade.
func priceOf(l api.GradeRules, grade int) int {
	if grade < 0 {
		return l.Price
	}
	return l.Classes[grade].Price
}

// eachSaid calls for each list of numbers that tasters can say.
func eachSaid(l []api.Taster, said []int, call func(said []int)) {
	if len(said) == len(l) {
		call(said)
		return
	}
	for n := l[len(said)].Flavour.Low; n <= l[len(said)].Flavour.High; n++ {
		eachSaid(l, append(slices.Clone(said), n), call)
	}
}

// strengthOf returns the strength by the definition.
func strengthOf(said []int) int {
	l := slices.Clone(said)
	slices.Sort(l)
	return l[(len(l)-1)/2]
}

// panelOf returns what Panel must return, by each number that each taster can say.
func panelOf(l api.GradeRules, tasters []api.Taster) (flavour api.Range, possibly, surely int) {
	flavour = r(10, 0)
	eachSaid(tasters, nil, func(said []int) {
		n := strengthOf(said)
		flavour = r(min(flavour.Low, n), max(flavour.High, n))
	})
	for taste := 1; taste <= 128; taste *= 2 {
		sure, perhaps := 0, 0
		for _, t := range tasters {
			if t.Sure&taste > 0 {
				sure++
			}
			if t.Perhaps&taste > 0 {
				perhaps++
			}
		}
		if sure >= l.Bad {
			surely += taste
		}
		if perhaps >= l.Bad {
			possibly += taste
		}
	}
	return flavour, possibly, surely
}

// densityOf returns what Density must return, by the value at each temperature. The test must be valid.
func densityOf(l api.GradeRules, b api.BarrelTest) api.Range {
	var values []api.Range
	for x := b.Temperature.Low; x <= b.Temperature.High; x++ {
		v, _ := span.Value(l.Correction, x)
		values = append(values, v)
	}
	hull := values[0]
	for _, v := range values {
		hull = r(min(hull.Low, v.Low), max(hull.High, v.High))
	}
	return r(b.Hydro.Low+hull.Low, b.Hydro.High+hull.High)
}

// gradesOf returns the grades of all truths.
func gradesOf(l api.GradeRules, b api.BarrelTest) []int {
	density := densityOf(l, b)
	flavour, possibly, surely := panelOf(l, b.Panel)
	seen := map[int]bool{}
	for n := density.Low; n <= density.High; n++ {
		for light := b.Light.Low; light <= b.Light.High; light++ {
			for strength := flavour.Low; strength <= flavour.High; strength++ {
				for _, counting := range []int{surely, possibly} { // all others that may count have some bad taste, too
					seen[gradeOf(l, within(l.Density, n), light, strength, counting > 0)] = true
				}
			}
		}
	}
	var grades []int
	for grade := -1; grade < 8; grade++ {
		if seen[grade] {
			grades = append(grades, grade)
		}
	}
	return grades
}

// same reports what a call returned if it is not what is wanted.
func same[T comparable](t *testing.T, what string, got T, e api.Errno, want T, wantErr api.Errno) {
	t.Helper()
	if got != want || e != wantErr {
		t.Errorf("%s: %v, error %d; want %v, error %d", what, got, e, want, wantErr)
	}
}

// sameList compares lists; an empty one and a nil one are the same.
func sameList(t *testing.T, what string, got []int, e api.Errno, want []int, wantErr api.Errno) {
	t.Helper()
	if !slices.Equal(got, want) || e != wantErr {
		t.Errorf("%s: %v, error %d; want %v, error %d", what, got, e, want, wantErr)
	}
}

// sameErr reports an error that is not the one that is wanted.
func sameErr(t *testing.T, what string, got, want api.Errno) {
	t.Helper()
	if got != want {
		t.Errorf("%s: error %d; want %d", what, got, want)
	}
}

// sameNet and the next ones ask, and compare.
func sameNet(t *testing.T, l api.GradeRules, b api.BarrelTest, want api.Range, wantErr api.Errno) {
	t.Helper()
	net, e := barrel.Net(l, b)
	same(t, fmt.Sprint("Net ", l.Scale, b.Gross, b.Tare), net, e, want, wantErr)
}

func sameDensity(t *testing.T, l api.GradeRules, b api.BarrelTest, want api.Range, wantErr api.Errno) {
	t.Helper()
	density, e := barrel.Density(l, b)
	same(t, fmt.Sprint("Density ", l.Correction, b.Hydro, b.Temperature), density, e, want, wantErr)
}

// told is what Panel returns.
type told struct {
	flavour          api.Range
	possibly, surely int
}

func samePanel(t *testing.T, l api.GradeRules, b api.BarrelTest, want told, wantErr api.Errno) {
	t.Helper()
	flavour, possibly, surely, e := barrel.Panel(l, b)
	same(t, fmt.Sprint("Panel ", l.Bad, b.Panel), told{flavour, possibly, surely}, e, want, wantErr)
}

func sameGrades(t *testing.T, l api.GradeRules, b api.BarrelTest, want []int, wantErr api.Errno) {
	t.Helper()
	grades, e := barrel.Grades(l, b)
	sameList(t, fmt.Sprint("Grades ", l, b), grades, e, want, wantErr)
}

func sameWorth(t *testing.T, l api.GradeRules, b api.BarrelTest, want api.Range, wantErr api.Errno) {
	t.Helper()
	worth, e := barrel.Worth(l, b)
	same(t, fmt.Sprint("Worth ", l, b), worth, e, want, wantErr)
}

func sameMixed(t *testing.T, l []api.Keg, want api.Keg, wantErr api.Errno) {
	t.Helper()
	mixed, e := barrel.Mixed(l)
	same(t, fmt.Sprint("Mixed ", l), mixed, e, want, wantErr)
}

func sameKegged(t *testing.T, l api.GradeRules, k api.Keg, want int, wantErr api.Errno) {
	t.Helper()
	grade, e := barrel.Kegged(l, k)
	same(t, fmt.Sprint("Kegged ", l, k), grade, e, want, wantErr)
}

func sameBlend(t *testing.T, l api.GradeRules, k []api.Keg, want []int, wantGain int, wantErr api.Errno) {
	t.Helper()
	best, gain, e := barrel.Blend(l, k)
	if !slices.Equal(best, want) || gain != wantGain || e != wantErr {
		t.Errorf("Blend %v %v: %v %d, error %d; want %v %d, error %d", l, k, best, gain, e, want, wantGain, wantErr)
	}
}
