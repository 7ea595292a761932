package span_test

import (
	"fmt"
	"math/big"
	"slices"
	"testing"

	"spile/api"
	"spile/span"
)

// badRanges are no valid ranges, each one step beyond what is.
var badRanges = []api.Range{r(1, 0), r(0, most+1), r(-most-1, 0), r(most+1, most+1), r(-most-1, -most-1), r(high, low), r(low, high)}

func TestP1_1Sum(t *testing.T) {
	for _, c := range []struct {
		l    []api.Range
		want api.Range
		e    api.Errno
	}{
		{nil, r(0, 0), api.OK},
		{[]api.Range{}, r(0, 0), api.OK},
		{set(r(3, 7)), r(3, 7), api.OK},
		{set(r(3, 7), r(-5, 1), r(10, 10)), r(8, 18), api.OK},
		{set(one(most)), one(most), api.OK},
		{set(one(most), one(1), one(-1)), one(most), api.OK},
		{set(one(most-1), r(0, 1)), r(most-1, most), api.OK},
		{set(one(most), r(0, 1)), r(0, 0), api.ErrOver},
		{set(one(-most), r(-1, 0)), r(0, 0), api.ErrOver},
		{set(one(-most), r(0, 1)), r(-most, -most+1), api.OK},
		{slices.Repeat(set(r(-1, 2)), 100), r(-100, 200), api.OK},
		{slices.Repeat(set(one(most)), 100), r(0, 0), api.ErrOver},
		{slices.Repeat(set(r(-1, 2)), 101), r(0, 0), api.ErrLong},
		{slices.Repeat(set(r(2, 1)), 101), r(0, 0), api.ErrLong},
		{set(one(most), one(most), r(2, 1)), r(0, 0), api.ErrArg},
	} {
		got, e := span.Sum(c.l)
		same(t, fmt.Sprint("Sum ", c.l), got, e, c.want, c.e)
	}
	for _, bad := range badRanges {
		got, e := span.Sum(set(r(0, 0), bad))
		same(t, fmt.Sprint("Sum with ", bad), got, e, r(0, 0), api.ErrArg)
	}
}

func TestP1_1Less(t *testing.T) {
	for _, c := range []struct {
		a, b, want api.Range
		e          api.Errno
	}{
		{r(3, 7), r(1, 2), r(1, 6), api.OK},
		{r(-3, 7), r(-1, 2), r(-5, 8), api.OK},
		{r(1, 4), r(1, 4), r(-3, 3), api.OK},
		{one(most), one(0), one(most), api.OK},
		{r(0, most), r(0, 1), r(-1, most), api.OK},
		{one(most), r(-1, 0), r(0, 0), api.ErrOver},
		{one(-most), r(0, 1), r(0, 0), api.ErrOver},
		{one(-most), r(-1, 0), r(-most, -most+1), api.OK},
	} {
		got, e := span.Less(c.a, c.b)
		same(t, fmt.Sprint("Less ", c.a, c.b), got, e, c.want, c.e)
	}
	for _, bad := range badRanges {
		got, e := span.Less(bad, one(-most))
		same(t, fmt.Sprint("Less of ", bad), got, e, r(0, 0), api.ErrArg)
		got, e = span.Less(one(most), bad)
		same(t, fmt.Sprint("Less by ", bad), got, e, r(0, 0), api.ErrArg)
	}
}

func TestP1_2Scale(t *testing.T) {
	for _, c := range []struct {
		a        api.Range
		num, den int
		want     api.Range
		e        api.Errno
	}{
		{r(7, 10), 1, 3, r(2, 4), api.OK},
		{r(7, 10), -1, 3, r(-4, -2), api.OK},
		{r(-7, 10), 1, 3, r(-3, 4), api.OK},
		{r(6, 9), 1, 3, r(2, 3), api.OK},
		{r(-9, -6), -1, 3, r(2, 3), api.OK},
		{r(5, 5), 2, 3, r(3, 4), api.OK},
		{r(5, 8), 0, 9, r(0, 0), api.OK},
		{r(-most, most), part, part, r(-most, most), api.OK},
		{r(-most, most), -part, part, r(-most, most), api.OK},
		{one(most), part, 1, r(0, 0), api.ErrOver},
		{one(most), -part, 1, r(0, 0), api.ErrOver},
		{one(most), part, part - 1, r(0, 0), api.ErrOver},
		{one(-most), part, part - 1, r(0, 0), api.ErrOver},
		{one(1000000), part, 1, one(most), api.OK},
		{one(1000001), part, 1, r(0, 0), api.ErrOver},
		{one(-1000000), part, 1, one(-most), api.OK},
		{r(-1, 1), part, 1, r(-part, part), api.OK},
		{r(1, 1), 1, part, r(0, 1), api.OK},
		{r(1, 2), part + 1, 1, r(0, 0), api.ErrRange},
		{r(1, 2), -part - 1, 1, r(0, 0), api.ErrRange},
		{r(1, 2), 1, part + 1, r(0, 0), api.ErrRange},
		{r(1, 2), 1, 0, r(0, 0), api.ErrRange},
		{r(1, 2), 1, -1, r(0, 0), api.ErrRange},
		{r(1, 2), low, low, r(0, 0), api.ErrRange},
		{one(most), part + 1, 1, r(0, 0), api.ErrRange},
		{r(2, 1), part + 1, 0, r(0, 0), api.ErrArg},
	} {
		got, e := span.Scale(c.a, c.num, c.den)
		same(t, fmt.Sprint("Scale ", c.a, c.num, c.den), got, e, c.want, c.e)
	}
	for _, bad := range badRanges {
		got, e := span.Scale(bad, 0, 1)
		same(t, fmt.Sprint("Scale of ", bad), got, e, r(0, 0), api.ErrArg)
	}
	d := dice()
	for range 3000 {
		a, num, den := pickRange(d, -most, most), pick(d, -part, part), pick(d, 1, part)
		want, ok := bounds([]*big.Int{down(a.Low, num, den), down(a.High, num, den)}, []*big.Int{up(a.Low, num, den), up(a.High, num, den)})
		got, e := span.Scale(a, num, den)
		same(t, fmt.Sprint("Scale ", a, num, den), got, e, want, over(ok))
	}
}

// over returns ErrOver unless a result is within what is valid.
func over(ok bool) api.Errno {
	if ok {
		return api.OK
	}
	return api.ErrOver
}

func TestP1_3Times(t *testing.T) {
	for _, c := range []struct {
		a, b, want api.Range
		e          api.Errno
	}{
		{r(-2, 3), r(4, 5), r(-10, 15), api.OK},
		{r(2, 3), r(4, 5), r(8, 15), api.OK},
		{r(-3, -2), r(4, 5), r(-15, -8), api.OK},
		{r(-3, -2), r(-5, -4), r(8, 15), api.OK},
		{r(-3, 2), r(-4, 5), r(-15, 12), api.OK},
		{r(0, 0), r(-most, most), r(0, 0), api.OK},
		{one(most), r(-1, 1), r(-most, most), api.OK},
		{one(1000000), one(part), one(most), api.OK},
		{one(1000001), one(part), r(0, 0), api.ErrOver},
		{one(-1000001), one(part), r(0, 0), api.ErrOver},
		{one(most), r(0, 2), r(0, 0), api.ErrOver},
		{r(-most, most), r(-most, most), r(0, 0), api.ErrOver},
		{one(4294967296), one(4294967296), r(0, 0), api.ErrOver},
	} {
		got, e := span.Times(c.a, c.b)
		same(t, fmt.Sprint("Times ", c.a, c.b), got, e, c.want, c.e)
		got, e = span.Times(c.b, c.a)
		same(t, fmt.Sprint("Times ", c.b, c.a), got, e, c.want, c.e)
	}
	for _, bad := range badRanges {
		got, e := span.Times(bad, one(most))
		same(t, fmt.Sprint("Times of ", bad), got, e, r(0, 0), api.ErrArg)
		got, e = span.Times(one(most), bad)
		same(t, fmt.Sprint("Times by ", bad), got, e, r(0, 0), api.ErrArg)
	}
	d := dice()
	for range 3000 {
		a, b := pickRange(d, -60000000, 60000000), pickRange(d, -60000000, 60000000)
		products := cornersOf(a, b, func(x, y int) *big.Int { return down(x, y, 1) })
		want, ok := bounds(products, products)
		got, e := span.Times(a, b)
		same(t, fmt.Sprint("Times ", a, b), got, e, want, over(ok))
	}
}

// cornersOf returns the results for all pairs of ends.
func cornersOf(a, b api.Range, f func(x, y int) *big.Int) []*big.Int {
	return []*big.Int{f(a.Low, b.Low), f(a.Low, b.High), f(a.High, b.Low), f(a.High, b.High)}
}

func TestP1_3Over(t *testing.T) {
	for _, c := range []struct {
		a, b, want api.Range
		e          api.Errno
	}{
		{r(7, 9), r(2, 4), r(1, 5), api.OK},
		{r(7, 9), r(-4, -2), r(-5, -1), api.OK},
		{r(-9, -7), r(2, 4), r(-5, -1), api.OK},
		{r(-9, -7), r(-4, -2), r(1, 5), api.OK},
		{r(-9, 8), r(3, 4), r(-3, 3), api.OK},
		{r(6, 8), r(2, 2), r(3, 4), api.OK},
		{r(0, 0), r(1, 9), r(0, 0), api.OK},
		{r(-most, most), r(1, most), r(-most, most), api.OK},
		{r(-most, most), r(-most, -1), r(-most, most), api.OK},
		{one(most), one(most), one(1), api.OK},
		{one(1), one(most), r(0, 1), api.OK},
		{r(7, 9), r(0, 4), r(0, 0), api.ErrRange},
		{r(7, 9), r(-4, 0), r(0, 0), api.ErrRange},
		{r(7, 9), r(-4, 4), r(0, 0), api.ErrRange},
		{r(0, 0), r(0, 0), r(0, 0), api.ErrRange},
		{r(2, 1), r(0, 0), r(0, 0), api.ErrArg},
	} {
		got, e := span.Over(c.a, c.b)
		same(t, fmt.Sprint("Over ", c.a, c.b), got, e, c.want, c.e)
	}
	for _, bad := range badRanges {
		got, e := span.Over(bad, one(0))
		same(t, fmt.Sprint("Over of ", bad), got, e, r(0, 0), api.ErrArg)
		got, e = span.Over(one(1), bad)
		same(t, fmt.Sprint("Over by ", bad), got, e, r(0, 0), api.ErrArg)
	}
	d := dice()
	for i := range 3000 {
		a, b := pickRange(d, -100000, 100000), pickRange(d, 1, 500)
		if i%2 == 0 {
			b = r(-b.High, -b.Low)
		}
		want, ok := bounds(cornersOf(a, b, func(x, y int) *big.Int { return down(x, 1, y) }), cornersOf(a, b, func(x, y int) *big.Int { return up(x, 1, y) }))
		got, e := span.Over(a, b)
		same(t, fmt.Sprint("Over ", a, b), got, e, want, over(ok))
	}
}

func TestP1_4MeetAndHull(t *testing.T) {
	for _, c := range []struct {
		l          []api.Range
		meet, hull api.Range
		e, f       api.Errno
	}{
		{nil, r(0, 0), r(0, 0), api.ErrForm, api.ErrForm},
		{[]api.Range{}, r(0, 0), r(0, 0), api.ErrForm, api.ErrForm},
		{set(r(4, 9)), r(4, 9), r(4, 9), api.OK, api.OK},
		{set(r(4, 9), r(6, 12)), r(6, 9), r(4, 12), api.OK, api.OK},
		{set(r(4, 9), r(9, 12), r(-3, 20)), r(9, 9), r(-3, 20), api.OK, api.OK},
		{set(r(4, 9), r(10, 12)), r(0, 0), r(4, 12), api.ErrNone, api.OK},
		{set(r(10, 12), r(4, 9)), r(0, 0), r(4, 12), api.ErrNone, api.OK},
		{set(r(-most, most), r(-most, most)), r(-most, most), r(-most, most), api.OK, api.OK},
		{set(one(-most), one(most)), r(0, 0), r(-most, most), api.ErrNone, api.OK},
		{slices.Repeat(set(r(-1, 2)), 100), r(-1, 2), r(-1, 2), api.OK, api.OK},
		{slices.Repeat(set(r(-1, 2)), 101), r(0, 0), r(0, 0), api.ErrLong, api.ErrLong},
		{slices.Repeat(set(r(2, 1)), 101), r(0, 0), r(0, 0), api.ErrLong, api.ErrLong},
		{set(r(4, 9), r(10, 12), r(2, 1)), r(0, 0), r(0, 0), api.ErrArg, api.ErrArg},
	} {
		m, e := span.Meet(c.l)
		same(t, fmt.Sprint("Meet ", c.l), m, e, c.meet, c.e)
		h, f := span.Hull(c.l)
		same(t, fmt.Sprint("Hull ", c.l), h, f, c.hull, c.f)
	}
	for _, bad := range badRanges {
		m, e := span.Meet(set(r(0, 0), bad))
		same(t, fmt.Sprint("Meet with ", bad), m, e, r(0, 0), api.ErrArg)
		h, f := span.Hull(set(bad, r(0, 0)))
		same(t, fmt.Sprint("Hull with ", bad), h, f, r(0, 0), api.ErrArg)
	}
}

func TestP1_5AtMost(t *testing.T) {
	for _, c := range []struct {
		a, b             api.Range
		surely, possibly bool
	}{
		{r(1, 3), r(4, 6), true, true},
		{r(1, 4), r(4, 6), true, true},
		{r(1, 5), r(4, 6), false, true},
		{r(6, 9), r(4, 6), false, true},
		{r(7, 9), r(4, 6), false, false},
		{r(4, 4), r(4, 4), true, true},
		{r(-most, most), r(-most, most), false, true},
		{one(most), one(-most), false, false},
	} {
		surely, possibly, e := span.AtMost(c.a, c.b)
		if surely != c.surely || possibly != c.possibly || e != api.OK {
			t.Error("AtMost", c.a, c.b, surely, possibly, e)
		}
	}
	for _, bad := range badRanges {
		surely, possibly, e := span.AtMost(bad, one(most))
		surely2, possibly2, f := span.AtMost(one(-most), bad)
		if surely || possibly || surely2 || possibly2 || e != api.ErrArg || f != api.ErrArg {
			t.Error("AtMost with", bad, surely, possibly, surely2, possibly2, e, f)
		}
	}
}

func TestP1_17AllTruths(t *testing.T) {
	d := dice()
	for range 3000 {
		a, b := pickRange(d, -40, 40), pickRange(d, -40, 40)
		x, y := pick(d, a.Low, a.High), pick(d, b.Low, b.High)
		num, den := pick(d, -9, 9), pick(d, 1, 9)
		sum, _ := span.Sum(set(a, b))
		less, _ := span.Less(a, b)
		times, _ := span.Times(a, b)
		scaled, _ := span.Scale(a, num, den)
		over, e := span.Over(a, b)
		truths := inside(one(x+y), sum) && inside(one(x-y), less) && inside(one(x*y), times) && scaled.Low*den <= x*num && x*num <= scaled.High*den
		if e == api.OK { // y*y is above 0, so that both sides are multiplied by it
			truths = truths && over.Low*y*y <= x*y && x*y <= over.High*y*y
		}
		if !truths {
			t.Error("not all truths:", a, b, x, y, num, den, sum, less, times, scaled, over)
		}
	}
}

func TestP1_17SmallerRanges(t *testing.T) {
	d := dice()
	for range 3000 {
		a, b := pickRange(d, -40, 40), pickRange(d, -40, 40)
		x, y := within(d, a), within(d, b)
		num, den := pick(d, -9, 9), pick(d, 1, 9)
		for i, f := range []func(a, b api.Range) (api.Range, api.Errno){
			func(a, b api.Range) (api.Range, api.Errno) { return span.Sum(set(a, b)) },
			func(a, b api.Range) (api.Range, api.Errno) { return span.Meet(set(a, b)) },
			func(a, b api.Range) (api.Range, api.Errno) { return span.Hull(set(a, b)) },
			func(a, b api.Range) (api.Range, api.Errno) { return span.Scale(a, num, den) },
			span.Less, span.Times, span.Over,
		} {
			wide, e := f(a, b)
			small, g := f(x, y)
			if e == api.OK && g == api.OK && !inside(small, wide) {
				t.Error("wider:", i, a, b, wide, x, y, small)
			}
		}
		hull, _ := span.Hull(set(a, b))
		if m, e := span.Meet(set(hull, b)); m != b || e != api.OK {
			t.Error("Meet of Hull:", a, b, m, e)
		}
	}
}
