package span_test

import (
	"math/big"
	"math/rand/v2"
	"slices"
	"testing"

	"spile/api"
)

const (
	most = api.MaxSpan
	part = api.MaxPart
	ton  = api.MaxMass
	far  = api.MaxRow
	low  = -1 << 63
	high = 1<<63 - 1
)

// r returns a range, and one returns the range of one number.
func r(low, high int) api.Range { return api.Range{Low: low, High: high} }

func one(n int) api.Range { return r(n, n) }

func set(l ...api.Range) []api.Range { return l }

func p(num, den int) api.Part { return api.Part{Num: num, Den: den} }

func s(water, sugar int) api.Sap { return api.Sap{Water: water, Sugar: sugar} }

// table returns rows of X, Y, X, Y ..
func table(n ...int) []api.Row {
	var t []api.Row
	for i := 0; i+1 < len(n); i += 2 {
		t = append(t, api.Row{X: n[i], Y: n[i+1]})
	}
	return t
}

// dice returns numbers that are the same in each run.
func dice() *rand.Rand { return rand.New(rand.NewPCG(1, 13)) }

// pick returns a number from a to b.
func pick(d *rand.Rand, a, b int) int { return a + d.IntN(b-a+1) }

// pickRange returns a range within a to b.
func pickRange(d *rand.Rand, a, b int) api.Range {
	x, y := pick(d, a, b), pick(d, a, b)
	return r(min(x, y), max(x, y))
}

// within returns a range that lies in another one.
func within(d *rand.Rand, a api.Range) api.Range { return pickRange(d, a.Low, a.High) }

// inside reports whether a range lies in another one.
func inside(a, b api.Range) bool { return b.Low <= a.Low && a.High <= b.High }

// down and up round a * b / c.
func down(a, b, c int) *big.Int {
	x := new(big.Int).Mul(big.NewInt(int64(a)), big.NewInt(int64(b)))
	y := big.NewInt(int64(c))
	if c < 0 {
		x, y = x.Neg(x), y.Neg(y)
	}
	return x.Div(x, y) // Euclid's division rounds down if the divisor is above 0
}

func up(a, b, c int) *big.Int {
	x := down(-a, b, c)
	return x.Neg(x)
}

// bounds returns the range from the least to the greatest number; false if one of both is beyond MaxSpan.
func bounds(lows, highs []*big.Int) (api.Range, bool) {
	less := func(a, b *big.Int) int { return a.Cmp(b) }
	a, b := slices.MinFunc(lows, less), slices.MaxFunc(highs, less)
	limit := big.NewInt(most)
	if a.CmpAbs(limit) > 0 || b.CmpAbs(limit) > 0 {
		return api.Range{}, false
	}
	return r(int(a.Int64()), int(b.Int64())), true
}

// same reports what a call returned if it is not what is wanted.
func same[T comparable](t *testing.T, what string, got T, e api.Errno, want T, wantErr api.Errno) {
	t.Helper()
	if got != want || e != wantErr {
		t.Errorf("%s: %v, error %d; want %v, error %d", what, got, e, want, wantErr)
	}
}

// sameList is same for lists, of which nil and empty ones are the same.
func sameList[T comparable](t *testing.T, what string, got []T, e api.Errno, want []T, wantErr api.Errno) {
	t.Helper()
	if !slices.Equal(got, want) || e != wantErr {
		t.Errorf("%s: %v, error %d; want %v, error %d", what, got, e, want, wantErr)
	}
}
