package candy_test

import (
	"slices"
	"testing"

	"spile/api"
	"spile/candy"
)

// sameErr and the next ones report what is not told as it must be.
func sameErr(t *testing.T, what string, told, want api.Errno) {
	t.Helper()
	if told != want {
		t.Errorf("%s: %d, not %d", what, told, want)
	}
}

func sameDense(t *testing.T, r api.CandyRules, temperature, want api.Range, e api.Errno) {
	t.Helper()
	if told, f := candy.Dense(r, temperature); told != want || f != e {
		t.Errorf("Dense of %v, %v: %v, %d, not %v, %d", r, temperature, told, f, want, e)
	}
}

func sameCrystals(t *testing.T, r api.CandyRules, s api.Sap, temperature, want api.Range, e api.Errno) {
	t.Helper()
	if told, f := candy.Crystals(r, s, temperature); told != want || f != e {
		t.Errorf("Crystals of %v, %v, %v: %v, %d, not %v, %d", r, s, temperature, told, f, want, e)
	}
}

func sameMake(t *testing.T, r api.CandyRules, s api.Sap, l []api.CandyAct, want []api.CandyState, at int, e api.Errno) {
	t.Helper()
	told, n, f := candy.Make(r, s, l)
	if !slices.Equal(told, want) || n != at || f != e {
		t.Errorf("Make of %v, %v, %v: %v, %d, %d, not %v, %d, %d", r, s, l, told, n, f, want, at, e)
	}
}

func sameProducts(t *testing.T, r api.CandyRules, x api.CandyState, want []int, e api.Errno) {
	t.Helper()
	if told, f := candy.Products(r, x); !slices.Equal(told, want) || f != e {
		t.Errorf("Products of %v, %v: %v, %d, not %v, %d", r, x, told, f, want, e)
	}
}

func sameYield(t *testing.T, s api.Sap, x api.CandyState, want api.Range, e api.Errno) {
	t.Helper()
	if told, f := candy.Yield(s, x); told != want || f != e {
		t.Errorf("Yield of %v, %v: %v, %d, not %v, %d", s, x, told, f, want, e)
	}
}

func sameNeeds(t *testing.T, r api.CandyRules, o api.CandyOrder, sugar, work int, e api.Errno) {
	t.Helper()
	if g, m, f := candy.Needs(r, o); g != sugar || m != work || f != e {
		t.Errorf("Needs of %v, %v: %d, %d, %d, not %d, %d, %d", r, o, g, m, f, sugar, work, e)
	}
}

func sameBest(t *testing.T, r api.CandyRules, l []api.CandyOrder, sugar, work int, want []int, pay int, e api.Errno) {
	t.Helper()
	told, p, f := candy.Best(r, l, sugar, work)
	if !slices.Equal(told, want) || p != pay || f != e {
		t.Errorf("Best of %v, %v, %d, %d: %v, %d, %d, not %v, %d, %d", r, l, sugar, work, told, p, f, want, pay, e)
	}
}
