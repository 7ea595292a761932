package vat_test

import (
	"fmt"
	"math/big"
	"math/rand/v2"
	"slices"
	"testing"

	"spile/api"
	"spile/vat"
)

const (
	low  = -1 << 63
	high = 1<<63 - 1
	ton  = api.MaxMass
	full = api.MaxTank
	top  = api.MaxGerms
)

// r returns a range, and one returns the range of one number.
func r(low, high int) api.Range { return api.Range{Low: low, High: high} }

func one(n int) api.Range { return r(n, n) }

func set(l ...api.Range) []api.Range { return l }

func list(l ...int) []int { return l }

func s(water, sugar int) api.Sap { return api.Sap{Water: water, Sugar: sugar} }

// table returns rows of X, Y, X, Y ..
func table(n ...int) []api.Row {
	var t []api.Row
	for i := 0; i+1 < len(n); i += 2 {
		t = append(t, api.Row{X: n[i], Y: n[i+1]})
	}
	return t
}

// times returns a list of so many equal things.
func times[T any](n int, x T) []T { return slices.Repeat([]T{x}, n) }

// usual are the rules of the chapter's examples.
func usual() api.VatRules {
	return api.VatRules{Growth: table(0, 10, 100, 50, 200, 300), Limit: 1000, Film: r(1, 2)}
}

// rulesWith changes what the usual rules have.
func rulesWith(change func(l *api.VatRules)) api.VatRules {
	l := usual()
	change(&l)
	return l
}

// newCellar returns a cellar, and usualCellar that of the chapter's examples.
func newCellar(t *testing.T, l api.VatRules, sizes ...int) *vat.Cellar {
	t.Helper()
	c, e := vat.New(l, sizes)
	if c == nil || e != api.OK {
		t.Fatal("New", l, sizes, c, e)
	}
	return c
}

func usualCellar(t *testing.T) *vat.Cellar {
	t.Helper()
	return newCellar(t, usual(), 1000, 500)
}

// pour pours, and stay lets hours go by; neither may have an error.
func pour(t *testing.T, c keeper, tank int, a api.Sap, load api.Range) {
	t.Helper()
	if e := c.Pour(tank, a, load); e != api.OK {
		t.Fatal("Pour", tank, a, load, e)
	}
}

func stay(t *testing.T, c keeper, hours int, temperature api.Range) {
	t.Helper()
	if e := c.Stay(hours, temperature); e != api.OK {
		t.Fatal("Stay", hours, temperature, e)
	}
}

// dice returns numbers that are the same in each run.
func dice() *rand.Rand { return rand.New(rand.NewPCG(1, 13)) }

// pick returns a number from a to b.
func pick(d *rand.Rand, a, b int) int { return a + d.IntN(b-a+1) }

// pickRange returns a range within a to b.
func pickRange(d *rand.Rand, a, b int) api.Range {
	x, y := pick(d, a, b), pick(d, a, b)
	return r(min(x, y), max(x, y))
}

// inside reports whether a range lies in another one.
func inside(a, b api.Range) bool { return b.Low <= a.Low && a.High <= b.High }

// add returns sap together, and mass its mass.
func add(l ...api.Sap) api.Sap {
	var all api.Sap
	for _, a := range l {
		all = s(all.Water+a.Water, all.Sugar+a.Sugar)
	}
	return all
}

func mass(a api.Sap) int { return a.Water + a.Sugar }

// down returns the product of numbers, divided by another one and rounded down.
func down(by int, factors ...int) int {
	x := big.NewInt(1)
	for _, n := range factors {
		x.Mul(x, big.NewInt(int64(n)))
	}
	return int(x.Div(x, big.NewInt(int64(by))).Int64())
}

// same reports what a call returned if it is not what is wanted.
func same[T comparable](t *testing.T, what string, got T, e api.Errno, want T, wantErr api.Errno) {
	t.Helper()
	if got != want || e != wantErr {
		t.Errorf("%s: %v, error %d; want %v, error %d", what, got, e, want, wantErr)
	}
}

// sameErr reports an error that is not the one that is wanted.
func sameErr(t *testing.T, what string, got, want api.Errno) {
	t.Helper()
	if got != want {
		t.Errorf("%s: error %d; want %d", what, got, want)
	}
}

// sameDraw draws, and sameTank asks Tell.
func sameDraw(t *testing.T, c keeper, tank, mass int, want api.Drawn, wantErr api.Errno) {
	t.Helper()
	drawn, e := c.Draw(tank, mass)
	same(t, fmt.Sprint("Draw of ", mass, " from ", tank), drawn, e, want, wantErr)
}

func sameTank(t *testing.T, c keeper, tank int, want api.Tank) {
	t.Helper()
	told, e := c.Tell(tank)
	same(t, fmt.Sprint("Tell of ", tank), told, e, want, api.OK)
}

// drawn returns what a draw returns.
func drawn(a api.Sap, load, age api.Range) api.Drawn { return api.Drawn{Sap: a, Load: load, Age: age} }

// sameBook asks Book.
func sameBook(t *testing.T, c keeper, in, out, lost, held api.Sap) {
	t.Helper()
	book, e := c.Book()
	same(t, "Book", book, e, api.VatBook{In: in, Out: out, Lost: lost, Held: held}, api.OK)
}

// account returns all that a cellar tells of itself.
func account(c keeper, tanks int) string {
	book, e := c.Book()
	text := fmt.Sprint(book, e)
	for tank := range tanks {
		told, e := c.Tell(tank)
		text += fmt.Sprint(" ", told, e)
	}
	return text
}

// lotsOf returns the lots of a tank, as draws of one lot after another tell them, and empties it. Their masses must be known.
func lotsOf(t *testing.T, c keeper, tank int, masses ...int) []api.Drawn {
	t.Helper()
	var l []api.Drawn
	for _, m := range masses {
		lot, e := c.Draw(tank, m)
		if e != api.OK {
			t.Fatal("Draw", tank, m, e)
		}
		l = append(l, lot)
	}
	if told, e := c.Tell(tank); told.Lots != 0 || e != api.OK {
		t.Fatal("there are more lots:", told, e)
	}
	return l
}

// sameLots empties a tank, lot by lot.
func sameLots(t *testing.T, c keeper, tank int, want ...api.Drawn) {
	t.Helper()
	var masses []int
	for _, lot := range want {
		masses = append(masses, mass(lot.Sap))
	}
	if got := lotsOf(t, c, tank, masses...); !slices.Equal(got, want) {
		t.Errorf("the lots of %d: %v; want %v", tank, got, want)
	}
}
