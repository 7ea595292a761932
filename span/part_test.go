package span_test

import (
	"fmt"
	"math/big"
	"testing"

	"spile/api"
	"spile/span"
)

// badParts are no valid parts.
var badParts = []api.Part{p(2, 4), p(0, 2), p(0, 0), p(1, 0), p(1, -1), p(-1, -2), p(part+1, 1), p(-part-1, 1), p(1, part+1), p(low, low), p(high, 1), p(1, high), p(-6, 9)}

func TestP1_6MakePart(t *testing.T) {
	for _, c := range []struct {
		num, den int
		want     api.Part
		e        api.Errno
	}{
		{4, 6, p(2, 3), api.OK},
		{-4, 6, p(-2, 3), api.OK},
		{4, -6, p(-2, 3), api.OK},
		{-4, -6, p(2, 3), api.OK},
		{6, 4, p(3, 2), api.OK},
		{0, 7, p(0, 1), api.OK},
		{0, -7, p(0, 1), api.OK},
		{5, 5, p(1, 1), api.OK},
		{most, most, p(1, 1), api.OK},
		{most, -most, p(-1, 1), api.OK},
		{part, 1, p(part, 1), api.OK},
		{-part, 1, p(-part, 1), api.OK},
		{1, part, p(1, part), api.OK},
		{part + 1, 1, p(0, 0), api.ErrOver},
		{-part - 1, 1, p(0, 0), api.ErrOver},
		{1, part + 1, p(0, 0), api.ErrOver},
		{1, -part - 1, p(0, 0), api.ErrOver},
		{2*part + 2, 2, p(0, 0), api.ErrOver},
		{2 * part, 2, p(part, 1), api.OK},
		{most, 1, p(0, 0), api.ErrOver},
		{1, most, p(0, 0), api.ErrOver},
		{1, 0, p(0, 0), api.ErrRange},
		{0, 0, p(0, 0), api.ErrRange},
		{most + 1, 1, p(0, 0), api.ErrRange},
		{-most - 1, 1, p(0, 0), api.ErrRange},
		{1, most + 1, p(0, 0), api.ErrRange},
		{1, -most - 1, p(0, 0), api.ErrRange},
		{0, most + 1, p(0, 0), api.ErrRange},
		{low, low, p(0, 0), api.ErrRange},
	} {
		got, e := span.MakePart(c.num, c.den)
		same(t, fmt.Sprint("MakePart ", c.num, c.den), got, e, c.want, c.e)
	}
}

func TestP1_6AddAndMulAndCompare(t *testing.T) {
	for _, c := range []struct {
		a, b, sum, product api.Part
		order              int
		e, f               api.Errno
	}{
		{p(1, 2), p(1, 3), p(5, 6), p(1, 6), 1, api.OK, api.OK},
		{p(-1, 2), p(1, 3), p(-1, 6), p(-1, 6), -1, api.OK, api.OK},
		{p(1, 6), p(1, 3), p(1, 2), p(1, 18), -1, api.OK, api.OK},
		{p(1, 2), p(-1, 2), p(0, 1), p(-1, 4), 1, api.OK, api.OK},
		{p(2, 3), p(3, 2), p(13, 6), p(1, 1), -1, api.OK, api.OK},
		{p(2, 3), p(2, 3), p(4, 3), p(4, 9), 0, api.OK, api.OK},
		{p(0, 1), p(0, 1), p(0, 1), p(0, 1), 0, api.OK, api.OK},
		{p(part, 1), p(1, 1), p(0, 0), p(part, 1), 1, api.ErrOver, api.OK},
		{p(part-1, 1), p(1, 1), p(part, 1), p(part-1, 1), 1, api.OK, api.OK},
		{p(-part, 1), p(-1, 1), p(0, 0), p(part, 1), -1, api.ErrOver, api.OK},
		{p(-part, 1), p(2, 1), p(2-part, 1), p(0, 0), -1, api.OK, api.ErrOver},
		{p(1, part), p(1, part-1), p(0, 0), p(0, 0), -1, api.ErrOver, api.ErrOver},
		{p(part-1, part), p(part, part-1), p(0, 0), p(1, 1), -1, api.ErrOver, api.OK},
		{p(1, part), p(1, part), p(1, part/2), p(0, 0), 0, api.OK, api.ErrOver},
		{p(part, 1), p(part, 1), p(0, 0), p(0, 0), 0, api.ErrOver, api.ErrOver},
	} {
		what := fmt.Sprint(c.a, c.b)
		sum, e := span.AddPart(c.a, c.b)
		same(t, "AddPart "+what, sum, e, c.sum, c.e)
		product, e := span.MulPart(c.a, c.b)
		same(t, "MulPart "+what, product, e, c.product, c.f)
		order, e := span.ComparePart(c.a, c.b)
		same(t, "ComparePart "+what, order, e, c.order, api.OK)
		order, e = span.ComparePart(c.b, c.a)
		same(t, "ComparePart back "+what, order, e, -c.order, api.OK)
	}
}

func TestP1_6Of(t *testing.T) {
	for _, c := range []struct {
		n    int
		p    api.Part
		want api.Range
		e    api.Errno
	}{
		{10, p(1, 3), r(3, 4), api.OK},
		{-10, p(1, 3), r(-4, -3), api.OK},
		{10, p(-1, 3), r(-4, -3), api.OK},
		{-10, p(-1, 3), r(3, 4), api.OK},
		{9, p(1, 3), r(3, 3), api.OK},
		{0, p(5, 3), r(0, 0), api.OK},
		{most, p(1, 1), one(most), api.OK},
		{-most, p(1, 1), one(-most), api.OK},
		{-most, p(-1, 1), one(most), api.OK},
		{most, p(part, part-1), r(0, 0), api.ErrOver},
		{most, p(-part, part-1), r(0, 0), api.ErrOver},
		{most, p(part, 1), r(0, 0), api.ErrOver},
		{most - 1, p(1, part), r(999999, 1000000), api.OK},
		{most + 1, p(0, 1), r(0, 0), api.ErrRange},
		{-most - 1, p(0, 1), r(0, 0), api.ErrRange},
		{most + 1, p(part, 1), r(0, 0), api.ErrRange},
		{most + 1, p(0, 2), r(0, 0), api.ErrArg},
	} {
		got, e := span.Of(c.n, c.p)
		same(t, fmt.Sprint("Of ", c.n, c.p), got, e, c.want, c.e)
	}
}

func TestP1_6InvalidParts(t *testing.T) {
	good := p(1, 2)
	for _, bad := range badParts {
		what := fmt.Sprint("with ", bad)
		for _, l := range [][2]api.Part{{bad, good}, {good, bad}} {
			order, e := span.ComparePart(l[0], l[1])
			same(t, "ComparePart "+what, order, e, 0, api.ErrArg)
			sum, e := span.AddPart(l[0], l[1])
			same(t, "AddPart "+what, sum, e, p(0, 0), api.ErrArg)
			product, e := span.MulPart(l[0], l[1])
			same(t, "MulPart "+what, product, e, p(0, 0), api.ErrArg)
		}
		got, e := span.Of(1, bad)
		same(t, "Of "+what, got, e, r(0, 0), api.ErrArg)
	}
}

// wanted returns a fraction as a part.
func wanted(x *big.Rat) (api.Part, api.Errno) {
	limit := big.NewInt(part)
	if x.Num().CmpAbs(limit) > 0 || x.Denom().CmpAbs(limit) > 0 {
		return api.Part{}, api.ErrOver
	}
	return p(int(x.Num().Int64()), int(x.Denom().Int64())), api.OK
}

func TestP1_6AsFractions(t *testing.T) {
	d := dice()
	for i := range 4000 {
		limit := []int{12, 100000, part, part}[i%4]
		a, e := span.MakePart(pick(d, -limit, limit), pick(d, 1, limit))
		b, f := span.MakePart(pick(d, -limit, limit), pick(d, 1, limit))
		if e != api.OK || f != api.OK {
			t.Fatal(e, f)
		}
		x, y := big.NewRat(int64(a.Num), int64(a.Den)), big.NewRat(int64(b.Num), int64(b.Den))
		sum, e := span.AddPart(a, b)
		want, f := wanted(new(big.Rat).Add(x, y))
		same(t, fmt.Sprint("AddPart ", a, b), sum, e, want, f)
		product, e := span.MulPart(a, b)
		want, f = wanted(new(big.Rat).Mul(x, y))
		same(t, fmt.Sprint("MulPart ", a, b), product, e, want, f)
		order, e := span.ComparePart(a, b)
		same(t, fmt.Sprint("ComparePart ", a, b), order, e, x.Cmp(y), api.OK)
		n := pick(d, -most, most)
		around, ok := bounds([]*big.Int{down(n, a.Num, a.Den)}, []*big.Int{up(n, a.Num, a.Den)})
		got, e := span.Of(n, a)
		same(t, fmt.Sprint("Of ", n, a), got, e, around, over(ok))
	}
}
