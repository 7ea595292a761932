package span_test

import (
	"fmt"
	"reflect"
	"slices"
	"testing"

	"spile/api"
	"spile/span"
)

// told returns a result and an error as a list.
func told[T any](v T, e api.Errno) []any { return []any{v, e} }

// toldTwo is told for two results.
func toldTwo[T, U any](v T, w U, e api.Errno) []any { return []any{v, w, e} }

// calls call every function of the package with four numbers.
func calls() map[string]func(a, b, c, d int) []any {
	return map[string]func(a, b, c, d int) []any{
		"Sum":         func(a, b, c, d int) []any { return told(span.Sum(set(r(a, b), r(c, d)))) },
		"Less":        func(a, b, c, d int) []any { return told(span.Less(r(a, b), r(c, d))) },
		"Scale":       func(a, b, c, d int) []any { return told(span.Scale(r(a, b), c, d)) },
		"Times":       func(a, b, c, d int) []any { return told(span.Times(r(a, b), r(c, d))) },
		"Over":        func(a, b, c, d int) []any { return told(span.Over(r(a, b), r(c, d))) },
		"Meet":        func(a, b, c, d int) []any { return told(span.Meet(set(r(a, b), r(c, d)))) },
		"Hull":        func(a, b, c, d int) []any { return told(span.Hull(set(r(a, b), r(c, d)))) },
		"AtMost":      func(a, b, c, d int) []any { return toldTwo(span.AtMost(r(a, b), r(c, d))) },
		"MakePart":    func(a, b, c, d int) []any { return told(span.MakePart(a, b)) },
		"ComparePart": func(a, b, c, d int) []any { return told(span.ComparePart(p(a, b), p(c, d))) },
		"AddPart":     func(a, b, c, d int) []any { return told(span.AddPart(p(a, b), p(c, d))) },
		"MulPart":     func(a, b, c, d int) []any { return told(span.MulPart(p(a, b), p(c, d))) },
		"Of":          func(a, b, c, d int) []any { return told(span.Of(a, p(b, c))) },
		"Mix":         func(a, b, c, d int) []any { return told(span.Mix([]api.Sap{s(a, b), s(c, d)})) },
		"Draw":        func(a, b, c, d int) []any { return toldTwo(span.Draw(s(a, b), c)) },
		"Split":       func(a, b, c, d int) []any { return told(span.Split(s(a, b), []int{c, d})) },
		"Brix":        func(a, b, c, d int) []any { return told(span.Brix(s(a, b))) },
		"Boil":        func(a, b, c, d int) []any { return told(span.Boil(s(a, b), c)) },
		"Thin":        func(a, b, c, d int) []any { return told(span.Thin(s(a, b), c)) },
		"CheckTable":  func(a, b, c, d int) []any { return told(0, span.CheckTable(table(a, b, c, d))) },
		"Value":       func(a, b, c, d int) []any { return told(span.Value(table(a, b, c, d), b)) },
		"Values":      func(a, b, c, d int) []any { return told(span.Values(table(a, b, c, d), r(a, b))) },
		"Where":       func(a, b, c, d int) []any { return told(span.Where(table(a, b, c, d), r(b, d))) },
		"CheckSet":    func(a, b, c, d int) []any { return told(0, span.CheckSet(set(r(a, b), r(c, d)))) },
		"Union":       func(a, b, c, d int) []any { return told(span.Union(set(r(a, b)), set(r(c, d)))) },
		"Common":      func(a, b, c, d int) []any { return told(span.Common(set(r(a, b)), set(r(c, d)))) },
		"Without":     func(a, b, c, d int) []any { return told(span.Without(set(r(a, b)), set(r(c, d)))) },
		"Count":       func(a, b, c, d int) []any { return told(span.Count(set(r(a, b), r(c, d)))) },
		"Widen":       func(a, b, c, d int) []any { return told(span.Widen(set(r(a, b)), c)) },
		"Narrow":      func(a, b, c, d int) []any { return told(span.Narrow(set(r(a, b)), c)) },
		"Near":        func(a, b, c, d int) []any { return told(span.Near(set(r(a, b)), c)) },
		"Share":       func(a, b, c, d int) []any { return told(span.Share(a, []int{b, c, d})) },
	}
}

// zero reports whether a result is its zero value.
func zero(v any) bool {
	x := reflect.ValueOf(v)
	return x.IsZero() || x.Kind() == reflect.Slice && x.Len() == 0
}

// TestP1AllArguments also shows P2: each call ends, none panics, and with an error there is no other result.
func TestP1AllArguments(t *testing.T) {
	hard := []int{low, low + 1, -most - 1, -most, -ton, -part - 1, -1, 0, 1, 2, 10000, part, ton, ton + 1, most, most + 1, high}
	for name, call := range calls() {
		for i := range len(hard) * len(hard) * len(hard) * len(hard) {
			a, b, c, d := hard[i%17], hard[i/17%17], hard[i/17/17%17], hard[i/17/17/17]
			results := call(a, b, c, d)
			last := len(results) - 1
			if results[last] != api.OK && slices.ContainsFunc(results[:last], func(v any) bool { return !zero(v) }) {
				t.Fatal(name, a, b, c, d, results)
			}
		}
	}
}

// roomy returns a copy of a list with room behind it, so that what is written there is seen as well.
func roomy[T any](l []T) []T { return append(make([]T, 0, len(l)+300), l...) }

// untouched reports a list that was given, and is changed by a call, or by what is written into its result.
func untouched[T, U comparable](t *testing.T, what string, l []T, junk U, call func(l []T) []U) {
	t.Helper()
	given := roomy(l)
	result := call(given)
	first := slices.Clone(result)
	var none T
	all := slices.Concat(l, slices.Repeat([]T{none}, cap(given)-len(l)))
	if !slices.Equal(given[:cap(given)], all) {
		t.Error(what, "changes its argument:", l, given)
	}
	full := result[:cap(result)]
	for i := range full {
		full[i] = junk
	}
	if !slices.Equal(given[:cap(given)], all) {
		t.Error(what, "shares memory with its argument:", l)
	}
	if again := call(roomy(l)); !slices.Equal(again, first) {
		t.Error(what, "is not the same again:", l, first, again)
	}
}

func TestR4Memory(t *testing.T) {
	junk := r(-77, -77)
	only := func(v []api.Range, e api.Errno) []api.Range { return v }
	single := func(v api.Range, e api.Errno) []api.Range { return set(v) }
	other := set(r(4, 5), r(30, 40))
	for _, l := range [][]api.Range{nil, set(r(3, 9)), set(r(0, 2), r(6, 9), r(12, 50)), set(r(6, 9), r(2, 1)), set(r(9, 9), r(1, 30), r(8, 9)), dots(200, 0)} {
		untouched(t, "Sum", l, junk, func(l []api.Range) []api.Range { return single(span.Sum(l)) })
		untouched(t, "Meet", l, junk, func(l []api.Range) []api.Range { return single(span.Meet(l)) })
		untouched(t, "Hull", l, junk, func(l []api.Range) []api.Range { return single(span.Hull(l)) })
		for i, f := range twoSets() {
			for _, b := range [][]api.Range{nil, other} {
				untouched(t, fmt.Sprint("set ", i), l, junk, func(l []api.Range) []api.Range { return only(f(l, b)) })
				untouched(t, fmt.Sprint("set ", i), l, junk, func(l []api.Range) []api.Range { return only(f(b, l)) })
				untouched(t, fmt.Sprint("set ", i), l, junk, func(l []api.Range) []api.Range { return only(f(l, l)) })
			}
		}
		for _, by := range []int{0, 1, 3} {
			untouched(t, "Widen", l, junk, func(l []api.Range) []api.Range { return only(span.Widen(l, by)) })
			untouched(t, "Narrow", l, junk, func(l []api.Range) []api.Range { return only(span.Narrow(l, by)) })
		}
		untouched(t, "Count", l, 0, func(l []api.Range) []int { n, _ := span.Count(l); return []int{n} })
		untouched(t, "Near", l, 0, func(l []api.Range) []int { n, _ := span.Near(l, 4); return []int{n} })
		untouched(t, "CheckSet", l, 0, func(l []api.Range) []api.Errno { return []api.Errno{span.CheckSet(l)} })
	}
	for _, l := range [][]api.Row{nil, hill, rows(60), table(2, 1, 1, 2)} {
		untouched(t, "CheckTable", l, 0, func(l []api.Row) []api.Errno { return []api.Errno{span.CheckTable(l)} })
		untouched(t, "Value", l, junk, func(l []api.Row) []api.Range { return single(span.Value(l, 13)) })
		untouched(t, "Values", l, junk, func(l []api.Row) []api.Range { return single(span.Values(l, r(3, 13))) })
		untouched(t, "Where", l, junk, func(l []api.Row) []api.Range { return only(span.Where(l, r(4, 24))) })
	}
	for _, l := range [][]int{nil, {1, 5, 3, 0, 3}, {2, 2, 2}, {-1, 4}} {
		untouched(t, "Share", l, -77, func(l []int) []int { v, _ := span.Share(10, l); return v })
		untouched(t, "Split", l, s(-77, -77), func(l []int) []api.Sap { v, _ := span.Split(s(97, 3), l); return v })
	}
	for _, l := range [][]api.Sap{nil, {s(1, 2), s(3, 4)}, {s(1, 2), s(-3, 4)}} {
		untouched(t, "Mix", l, s(-77, -77), func(l []api.Sap) []api.Sap { v, _ := span.Mix(l); return []api.Sap{v} })
	}
}

func TestExamples(t *testing.T) {
	scaled, e := span.Scale(r(7, 10), 1, 3)
	same(t, "Scale", scaled, e, r(2, 4), api.OK)
	times, e := span.Times(r(-2, 3), r(4, 5))
	same(t, "Times", times, e, r(-10, 15), api.OK)
	over, e := span.Over(r(7, 9), r(2, 4))
	same(t, "Over", over, e, r(1, 5), api.OK)
	drawn, _, e := span.Draw(s(970, 30), 100)
	same(t, "Draw of 100", drawn, e, s(97, 3), api.OK)
	drawn, _, e = span.Draw(s(970, 30), 33)
	same(t, "Draw of 33", drawn, e, s(33, 0), api.OK)
	drawn, _, e = span.Draw(s(970, 30), 34)
	same(t, "Draw of 34", drawn.Sugar, e, 1, api.OK)
	off, e := span.Boil(s(980, 20), 6600)
	same(t, "Boil", off, e, 970, api.OK)
	brix, e := span.Brix(s(980, 20))
	same(t, "Brix", brix, e, r(200, 200), api.OK)
	value, e := span.Value(hill, 5)
	same(t, "Value at 5", value, e, one(15), api.OK)
	value, e = span.Value(hill, 13)
	same(t, "Value at 13", value, e, one(24), api.OK)
	where, e := span.Where(hill, r(15, 24))
	sameList(t, "Where", where, e, set(r(5, 8), r(13, 17)), api.OK)
	without, e := span.Without(set(r(0, 9)), set(r(3, 4)))
	sameList(t, "Without", without, e, set(r(0, 2), r(5, 9)), api.OK)
	wide, e := span.Widen(set(r(0, 2), r(5, 9)), 1)
	sameList(t, "Widen", wide, e, set(r(-1, 10)), api.OK)
	shares, e := span.Share(10, []int{1, 1, 1})
	sameList(t, "Share", shares, e, []int{4, 3, 3}, api.OK)
}
