package span_test

import (
	"fmt"
	"math/rand/v2"
	"slices"
	"testing"

	"spile/api"
	"spile/span"
)

// member reports whether a number is in a set.
func member(s []api.Range, x int) bool {
	return slices.ContainsFunc(s, func(a api.Range) bool { return a.Low <= x && x <= a.High })
}

// dots returns so many single numbers, every fourth one from a on.
func dots(n, a int) []api.Range {
	var s []api.Range
	for i := range n {
		s = append(s, one(a+4*i))
	}
	return s
}

var badSets = [][]api.Range{
	set(r(2, 1)), set(r(0, most+1)), set(r(-most-1, 0)), set(r(1, 2), r(3, 4)), set(r(1, 2), r(2, 4)), set(r(5, 6), r(1, 2)), set(r(1, 2), r(1, 2)),
	set(r(1, 2), r(5, 4)), set(one(most), r(low, high)), set(r(0, 1), r(3, 4), r(4, 9)),
}

var goodSets = [][]api.Range{nil, {}, set(one(0)), set(r(-most, most)), set(r(1, 2), r(4, 5)), set(one(-most), one(most)), dots(200, 0)}

func TestP1_13CheckSet(t *testing.T) {
	for i, good := range goodSets {
		if e := span.CheckSet(good); e != api.OK {
			t.Error("CheckSet of good", i, e)
		}
	}
	for i, bad := range badSets {
		if e := span.CheckSet(bad); e != api.ErrArg {
			t.Error("CheckSet", i, bad, e)
		}
	}
	for _, long := range [][]api.Range{dots(201, 0), slices.Repeat(set(r(2, 1)), 201)} {
		if e := span.CheckSet(long); e != api.ErrLong {
			t.Error("CheckSet of 201", e)
		}
	}
}

// twoSets are the functions of two sets.
func twoSets() []func(a, b []api.Range) ([]api.Range, api.Errno) {
	return []func(a, b []api.Range) ([]api.Range, api.Errno){span.Union, span.Common, span.Without}
}

func TestP1_13Errors(t *testing.T) {
	long, good := dots(201, 0), set(r(0, 1))
	for i, bad := range badSets {
		for j, f := range twoSets() {
			what := fmt.Sprint(j, " with ", bad)
			got, e := f(bad, good)
			sameList(t, what, got, e, nil, api.ErrArg)
			got, e = f(good, bad)
			sameList(t, what, got, e, nil, api.ErrArg)
			got, e = f(bad, long)
			sameList(t, what, got, e, nil, api.ErrArg)
			got, e = f(long, bad)
			sameList(t, what, got, e, nil, api.ErrLong)
		}
		n, e := span.Count(bad)
		same(t, fmt.Sprint("Count ", i), n, e, 0, api.ErrArg)
		wide, e := span.Widen(bad, -1)
		sameList(t, fmt.Sprint("Widen ", i), wide, e, nil, api.ErrArg)
		narrow, e := span.Narrow(bad, -1)
		sameList(t, fmt.Sprint("Narrow ", i), narrow, e, nil, api.ErrArg)
		near, e := span.Near(bad, most+1)
		same(t, fmt.Sprint("Near ", i), near, e, 0, api.ErrArg)
	}
	n, e := span.Count(long)
	same(t, "Count of 201", n, e, 0, api.ErrLong)
	wide, e := span.Widen(long, -1)
	sameList(t, "Widen of 201", wide, e, nil, api.ErrLong)
	narrow, e := span.Narrow(long, -1)
	sameList(t, "Narrow of 201", narrow, e, nil, api.ErrLong)
	near, e := span.Near(long, most+1)
	same(t, "Near of 201", near, e, 0, api.ErrLong)
}

func TestP1_13UnionCommonWithout(t *testing.T) {
	for _, c := range []struct {
		a, b, union, common, without []api.Range
	}{
		{nil, nil, nil, nil, nil},
		{set(r(1, 3)), nil, set(r(1, 3)), nil, set(r(1, 3))},
		{nil, set(r(1, 3)), set(r(1, 3)), nil, nil},
		{set(r(0, 9)), set(r(3, 4)), set(r(0, 9)), set(r(3, 4)), set(r(0, 2), r(5, 9))},
		{set(r(0, 9)), set(r(0, 9)), set(r(0, 9)), set(r(0, 9)), nil},
		{set(r(0, 4)), set(r(5, 9)), set(r(0, 9)), nil, set(r(0, 4))},
		{set(r(0, 4)), set(r(6, 9)), set(r(0, 4), r(6, 9)), nil, set(r(0, 4))},
		{set(r(0, 5)), set(r(5, 9)), set(r(0, 9)), set(one(5)), set(r(0, 4))},
		{set(r(0, 2), r(5, 9)), set(r(3, 4)), set(r(0, 9)), nil, set(r(0, 2), r(5, 9))},
		{set(r(0, 2), r(5, 9)), set(r(2, 5)), set(r(0, 9)), set(one(2), one(5)), set(r(0, 1), r(6, 9))},
		{set(r(-most, most)), set(one(0)), set(r(-most, most)), set(one(0)), set(r(-most, -1), r(1, most))},
		{set(one(-most), one(most)), set(r(-most, most)), set(r(-most, most)), set(one(-most), one(most)), nil},
	} {
		what := fmt.Sprint(c.a, c.b)
		got, e := span.Union(c.a, c.b)
		sameList(t, "Union "+what, got, e, c.union, api.OK)
		got, e = span.Common(c.a, c.b)
		sameList(t, "Common "+what, got, e, c.common, api.OK)
		got, e = span.Without(c.a, c.b)
		sameList(t, "Without "+what, got, e, c.without, api.OK)
	}
}

func TestP1_13Full(t *testing.T) {
	var broad []api.Range
	for i := range 200 {
		broad = append(broad, r(20*i, 20*i+10))
	}
	for i, c := range []struct {
		f    func(a, b []api.Range) ([]api.Range, api.Errno)
		a, b []api.Range
		n    int
		e    api.Errno
	}{
		{span.Union, dots(200, 0), dots(200, 2), 0, api.ErrFull},
		{span.Union, dots(100, 0), dots(100, 2), 200, api.OK},
		{span.Union, dots(101, 0), dots(100, 2), 0, api.ErrFull},
		{span.Union, dots(200, 0), dots(200, 0), 200, api.OK},
		{span.Common, broad, set(r(0, 20000)), 200, api.OK},
		{span.Common, broad, dots(200, 0), 120, api.OK},
		{span.Without, set(r(-1, 800)), dots(200, 0), 0, api.ErrFull},
		{span.Without, set(r(0, 800)), dots(200, 0), 200, api.OK},
		{span.Without, set(r(1, 795)), dots(200, 0), 199, api.OK},
	} {
		got, e := c.f(c.a, c.b)
		if len(got) != c.n || e != c.e {
			t.Error(i, len(got), e)
		}
	}
	var gaps []api.Range // each gap lies in a range of broad, so that there are two ranges for each of them
	for i := range 199 {
		gaps = append(gaps, r(20*i+6, 20*i+24))
	}
	got, e := span.Common(broad, gaps)
	sameList(t, "Common of two for each", got, e, nil, api.ErrFull)
}

func TestP1_13Count(t *testing.T) {
	for i, want := range []int{0, 0, 1, 2*most + 1, 4, 2, 200} {
		n, e := span.Count(goodSets[i])
		same(t, fmt.Sprint("Count ", i), n, e, want, api.OK)
	}
}

func TestP1_14WidenAndNarrow(t *testing.T) {
	for _, c := range []struct {
		s            []api.Range
		by           int
		wide, narrow []api.Range
		e            api.Errno
	}{
		{nil, 0, nil, nil, api.OK},
		{nil, most, nil, nil, api.OK},
		{set(r(0, 2), r(5, 9)), 0, set(r(0, 2), r(5, 9)), set(r(0, 2), r(5, 9)), api.OK},
		{set(r(0, 2), r(5, 9)), 1, set(r(-1, 10)), set(one(1), r(6, 8)), api.OK},
		{set(r(0, 2), r(6, 9)), 1, set(r(-1, 3), r(5, 10)), set(one(1), r(7, 8)), api.OK},
		{set(r(0, 2), r(6, 9)), 2, set(r(-2, 11)), nil, api.OK},
		{set(r(0, 2), r(6, 10)), 2, set(r(-2, 12)), set(one(8)), api.OK},
		{set(one(0), one(2), one(4)), 1, set(r(-1, 5)), nil, api.OK},
		{set(r(-most, most)), 0, set(r(-most, most)), set(r(-most, most)), api.OK},
		{set(r(-most, most)), 3, set(r(-most, most)), set(r(-most+3, most-3)), api.OK},
		{set(r(-most, most)), most, set(r(-most, most)), set(one(0)), api.OK},
		{set(r(-most+1, most-2)), 2, set(r(-most, most)), set(r(-most+3, most-4)), api.OK},
		{set(one(-most), one(most)), most - 1, set(r(-most, -1), r(1, most)), nil, api.OK},
		{set(one(-most), one(most)), most, set(r(-most, most)), nil, api.OK},
		{set(one(-most), one(most)), most + 1, nil, nil, api.ErrRange},
		{set(r(0, 2)), -1, nil, nil, api.ErrRange},
		{nil, -1, nil, nil, api.ErrRange},
		{nil, high, nil, nil, api.ErrRange},
		{set(r(0, 2)), low, nil, nil, api.ErrRange},
	} {
		got, e := span.Widen(c.s, c.by)
		sameList(t, fmt.Sprint("Widen ", c.s, c.by), got, e, c.wide, c.e)
		got, e = span.Narrow(c.s, c.by)
		sameList(t, fmt.Sprint("Narrow ", c.s, c.by), got, e, c.narrow, c.e)
	}
}

func TestP1_15Near(t *testing.T) {
	two := set(r(0, 2), r(6, 9))
	for _, c := range []struct {
		s       []api.Range
		x, want int
		e       api.Errno
	}{
		{two, 1, 1, api.OK},
		{two, -5, 0, api.OK},
		{two, 3, 2, api.OK},
		{two, 4, 2, api.OK},
		{two, 5, 6, api.OK},
		{two, 7, 7, api.OK},
		{two, 99, 9, api.OK},
		{two, most, 9, api.OK},
		{two, -most, 0, api.OK},
		{set(one(-most), one(most)), 0, -most, api.OK},
		{set(one(-most), one(most)), 1, most, api.OK},
		{set(one(most)), -most, most, api.OK},
		{set(one(0), one(10), one(20)), 15, 10, api.OK},
		{two, most + 1, 0, api.ErrRange},
		{two, -most - 1, 0, api.ErrRange},
		{two, low, 0, api.ErrRange},
		{nil, high, 0, api.ErrRange},
		{nil, 0, 0, api.ErrNone},
		{[]api.Range{}, 0, 0, api.ErrNone},
	} {
		got, e := span.Near(c.s, c.x)
		same(t, fmt.Sprint("Near ", c.s, c.x), got, e, c.want, c.e)
	}
}

// pickSet returns a small set.
func pickSet(d *rand.Rand) []api.Range {
	var s []api.Range
	at := pick(d, -30, 0)
	for range pick(d, 0, 6) {
		a := r(at, at+pick(d, 0, 5))
		s = append(s, a)
		at = a.High + pick(d, 2, 7)
	}
	return s
}

// setOf returns the set of the numbers from -50 to 90 that are kept, in the slow way.
func setOf(keep func(x int) bool) []api.Range {
	var s []api.Range
	for x := -50; x <= 90; x++ {
		if !keep(x) {
			continue
		}
		if n := len(s); n > 0 && s[n-1].High == x-1 {
			s[n-1].High = x
		} else {
			s = append(s, one(x))
		}
	}
	return s
}

func TestP1_21Sets(t *testing.T) {
	d := dice()
	for range 2000 {
		a, b, by := pickSet(d), pickSet(d), pick(d, 0, 4)
		what := fmt.Sprint(a, b)
		got, e := span.Union(a, b)
		sameList(t, "Union "+what, got, e, setOf(func(x int) bool { return member(a, x) || member(b, x) }), api.OK)
		got, e = span.Common(a, b)
		sameList(t, "Common "+what, got, e, setOf(func(x int) bool { return member(a, x) && member(b, x) }), api.OK)
		got, e = span.Without(a, b)
		sameList(t, "Without "+what, got, e, setOf(func(x int) bool { return member(a, x) && !member(b, x) }), api.OK)
		what = fmt.Sprint(a, by)
		wide, e := span.Widen(a, by)
		sameList(t, "Widen "+what, wide, e, setOf(func(x int) bool {
			near, e := span.Near(a, x)
			return e == api.OK && near-by <= x && x <= near+by
		}), api.OK)
		narrow, e := span.Narrow(a, by)
		sameList(t, "Narrow "+what, narrow, e, setOf(func(x int) bool {
			for y := x - by; y <= x+by; y++ {
				if !member(a, y) {
					return false
				}
			}
			return true
		}), api.OK)
		back, e := span.Narrow(wide, by)
		lost, f := span.Without(a, back)
		sameList(t, "lost by Narrow of Widen "+what, lost, max(e, f), nil, api.OK)
	}
}
