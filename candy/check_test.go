package candy_test

import (
	"fmt"
	"testing"

	"spile/api"
	"spile/candy"
)

// withRules calls all functions with rules. All else that they get has errors, too, if that is asked for.
func withRules(r api.CandyRules, wrong bool) map[string]api.Errno {
	temperature, s, l, x, given, sugar := between(1130, 1135), usualSap(), acts(cook(1100, 1100)), begun(just(8500), just(100), just(20)), orders(order(0, 5, 5)), 100
	if wrong {
		temperature, s, l, x, given, sugar = just(2000), sap(5, 0), times(31, cook(1, 0)), standing(just(1), just(1)), times(15, order(0, 5, 5)), -1
	}
	told := map[string]api.Errno{"Check": candy.Check(r)}
	_, told["Dense"] = candy.Dense(r, temperature)
	_, told["Crystals"] = candy.Crystals(r, s, temperature)
	_, _, told["Make"] = candy.Make(r, s, l)
	_, told["Products"] = candy.Products(r, x)
	_, _, told["Needs"] = candy.Needs(r, given[0])
	_, _, told["Best"] = candy.Best(r, given, sugar, 100)
	return told
}

// sameRules compares the error of rules with what each function returns, also if there are other errors.
func sameRules(t *testing.T, what string, r api.CandyRules, want api.Errno) {
	t.Helper()
	if e := candy.Check(r); e != want || checkOf(r) != want {
		t.Errorf("%s: Check returns %d, not %d; by the definition %d: %v", what, e, want, checkOf(r), r)
	}
	if want == api.OK {
		return
	}
	for _, wrong := range []bool{false, true} {
		for name, e := range withRules(r, wrong) {
			sameErr(t, what+" "+name, e, want)
		}
	}
}

func TestP11_1Usual(t *testing.T) {
	sameRules(t, "usual", usual(), api.OK)
	sameRules(t, "none", api.CandyRules{}, api.ErrArg)
	wanted := map[string]api.Errno{"Make": api.ErrNone, "Crystals": api.ErrRange, "Dense": api.ErrNone, "Products": api.ErrState, "Best": api.ErrLong}
	for name, e := range withRules(usual(), true) {
		sameErr(t, name, e, wanted[name])
	}
	least := api.CandyRules{Elevation: table(0, 0, 1, 1), Solubility: table(0, 0, 1, 0), Products: products(product(just(1), just(0), just(0)))}
	sameRules(t, "least", least, api.OK)
}

// TestP11_1Ranges sets each range of the rules to its bounds, and beyond them.
func TestP11_1Ranges(t *testing.T) {
	r := with(func(r *api.CandyRules) { r.Products = append(r.Products, r.Products...) })
	for _, b := range rangesOf(&r) {
		was := *b.r
		for _, x := range rightRanges(b.least, b.most) {
			*b.r = x
			sameRules(t, fmt.Sprint(b.what, x), r, api.OK)
		}
		for _, x := range wrongRanges(b.least, b.most) {
			*b.r = x
			sameRules(t, fmt.Sprint(b.what, x), r, api.ErrArg)
		}
		*b.r = was
	}
}

// TestP11_1Numbers sets each number of products to its bounds, and beyond them.
func TestP11_1Numbers(t *testing.T) {
	r := with(func(r *api.CandyRules) { r.Products = append(r.Products, r.Products...) })
	for _, b := range boundsOf(&r) {
		was := *b.n
		for n, want := range map[int]api.Errno{b.least: api.OK, b.most: api.OK, b.least - 1: api.ErrArg, b.most + 1: api.ErrArg, low: api.ErrArg, high: api.ErrArg} {
			*b.n = n
			sameRules(t, fmt.Sprint(b.what, " ", n), r, want)
		}
		*b.n = was
	}
}

func TestP11_1Products(t *testing.T) {
	for n, want := range map[int]api.Errno{0: api.ErrArg, 1: api.OK, 2: api.OK, 7: api.OK, 8: api.OK, 9: api.ErrArg, 5000: api.ErrArg} {
		sameRules(t, fmt.Sprint("products: ", n), making(times(n, usual().Products[1])...), want)
	}
}

// rowsUp returns so many rows whose X and Y rise by 1.
func rowsUp(n, x, y int) []api.Row {
	var t []api.Row
	for i := range n {
		t = append(t, api.Row{X: x + i, Y: y + i})
	}
	return t
}

func TestP11_1Elevation(t *testing.T) {
	for i, c := range []struct {
		t    []api.Row
		want api.Errno
	}{
		{nil, api.ErrArg}, {table(5, 5), api.ErrArg}, {table(5, 5, 6, 6), api.OK}, {rowsUp(59, 5, 5), api.OK}, {rowsUp(60, 5, 5), api.OK}, {rowsUp(61, 5, 5), api.ErrArg}, {rowsUp(1900, 5, 5), api.ErrArg},
		{table(0, 0, 10000, 2000), api.OK}, {table(-1, 0, 10000, 2000), api.ErrArg}, {table(0, 0, 10001, 2000), api.ErrArg}, {table(0, -1, 10000, 2000), api.ErrArg}, {table(0, 0, 10000, 2001), api.ErrArg}, {table(9999, 1999, 10000, 2000), api.OK}, {table(0, 0, 1, 1), api.OK},
		{table(-2, 0, -1, 5), api.ErrArg}, {table(10001, 0, 10002, 5), api.ErrArg}, {table(0, -2, 5, -1), api.ErrArg}, {table(0, 2001, 5, 2002), api.ErrArg}, {table(low, 0, 5, 5), api.ErrArg}, {table(0, low, 5, 5), api.ErrArg}, {table(0, 0, high, 5), api.ErrArg}, {table(0, 0, 5, high), api.ErrArg},
		{table(5, 5, 5, 6), api.ErrArg}, {table(6, 5, 5, 6), api.ErrArg}, {table(0, 0, 5, 5, 5, 6, 7, 7), api.ErrArg}, {table(0, 0, 5, 5, 4, 6, 7, 7), api.ErrArg}, {table(0, 0, 5, 5, 6, 6, 6, 7), api.ErrArg},
		{table(5, 5, 6, 5), api.ErrArg}, {table(5, 5, 6, 4), api.ErrArg}, {table(0, 0, 5, 5, 6, 5, 7, 7), api.ErrArg}, {table(0, 0, 5, 5, 6, 4, 7, 7), api.ErrArg}, {table(0, 0, 5, 5, 6, 6, 7, 6), api.ErrArg}, {table(0, 0, 5, 5, 6, 6, 7, 0), api.ErrArg}, {table(0, 0, 5, 5, 6, 6, 7, 7), api.OK}, {table(0, 1, 5, 1, 6, 6), api.ErrArg}, {table(0, 1, 5, 0, 6, 6), api.ErrArg},
	} {
		sameRules(t, fmt.Sprint("the elevation ", i), with(func(r *api.CandyRules) { r.Elevation = c.t }), c.want)
	}
}

func TestP11_1Solubility(t *testing.T) {
	for i, c := range []struct {
		t    []api.Row
		want api.Errno
	}{
		{nil, api.ErrArg}, {table(5, 5), api.ErrArg}, {table(5, 5, 6, 6), api.OK}, {rowsUp(59, 5, 5), api.OK}, {rowsUp(60, 5, 5), api.OK}, {rowsUp(61, 5, 5), api.ErrArg}, {rowsUp(1900, 5, 5), api.ErrArg},
		{table(-2000, 0, 2000, 9999), api.OK}, {table(-2000, 9999, 2000, 0), api.OK}, {table(-2001, 0, 2000, 9999), api.ErrArg}, {table(-2000, 0, 2001, 9999), api.ErrArg}, {table(-2000, -1, 2000, 9999), api.ErrArg}, {table(-2000, 0, 2000, 10000), api.ErrArg}, {table(-2000, 10000, 2000, 0), api.ErrArg}, {table(-2000, 0, 2000, -1), api.ErrArg}, {table(-2000, 5, 0, 10000, 2000, 5), api.ErrArg}, {table(-2000, 5, 0, -1, 2000, 5), api.ErrArg},
		{table(-2002, 5, -2001, 5), api.ErrArg}, {table(2001, 5, 2002, 5), api.ErrArg}, {table(low, 0, 5, 5), api.ErrArg}, {table(0, low, 5, 5), api.ErrArg}, {table(0, 0, high, 5), api.ErrArg}, {table(0, 0, 5, high), api.ErrArg},
		{table(5, 5, 5, 6), api.ErrArg}, {table(6, 5, 5, 6), api.ErrArg}, {table(0, 0, 5, 5, 5, 6, 7, 7), api.ErrArg}, {table(0, 0, 5, 5, 4, 6, 7, 7), api.ErrArg}, {table(0, 0, 5, 5, 6, 6, 6, 7), api.ErrArg},
		{table(5, 5, 6, 5), api.OK}, {table(5, 5, 6, 4), api.OK}, {table(0, 0, 5, 5, 6, 5, 7, 3, 8, 9), api.OK},
	} {
		sameRules(t, fmt.Sprint("the solubility ", i), with(func(r *api.CandyRules) { r.Solubility = c.t }), c.want)
	}
}

// TestP11_1Definitions compares any rules, some with a wrong number.
func TestP11_1Definitions(t *testing.T) {
	d := dice()
	wrong := 0
	for range 20000 {
		r := anyRules(d)
		numbers := numbersOfRules(&r)
		for range d.IntN(3) {
			numbers[d.IntN(len(numbers))](pick(d, -3, 12000))
		}
		want := checkOf(r)
		sameErr(t, fmt.Sprint("Check ", r), candy.Check(r), want)
		if want != api.OK {
			wrong++
		}
	}
	if wrong < 5000 || wrong > 15000 {
		t.Error("too few, or too many, that are wrong:", wrong)
	}
}
