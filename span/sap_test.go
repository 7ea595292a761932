package span_test

import (
	"fmt"
	"slices"
	"testing"

	"spile/api"
	"spile/span"
)

// badSap is no valid sap.
var badSap = []api.Sap{s(-1, 0), s(0, -1), s(ton+1, 0), s(0, ton+1), s(low, high), s(high, high)}

func TestP1_7Mix(t *testing.T) {
	for _, c := range []struct {
		l    []api.Sap
		want api.Sap
		e    api.Errno
	}{
		{nil, s(0, 0), api.OK},
		{[]api.Sap{}, s(0, 0), api.OK},
		{[]api.Sap{s(970, 30)}, s(970, 30), api.OK},
		{[]api.Sap{s(970, 30), s(0, 5), s(7, 0)}, s(977, 35), api.OK},
		{[]api.Sap{s(ton, 0), s(0, ton)}, s(ton, ton), api.OK},
		{[]api.Sap{s(ton, 5), s(1, 0)}, s(0, 0), api.ErrOver},
		{[]api.Sap{s(5, ton), s(0, 1)}, s(0, 0), api.ErrOver},
		{slices.Repeat([]api.Sap{s(ton, ton)}, 100), s(0, 0), api.ErrOver},
		{slices.Repeat([]api.Sap{s(2, 1)}, 100), s(200, 100), api.OK},
		{slices.Repeat([]api.Sap{s(2, 1)}, 101), s(0, 0), api.ErrLong},
		{slices.Repeat([]api.Sap{s(-2, 1)}, 101), s(0, 0), api.ErrLong},
		{[]api.Sap{s(ton, 0), s(ton, 0), s(-1, 0)}, s(0, 0), api.ErrArg},
		{[]api.Sap{s(5, 5), s(-5, 5)}, s(0, 0), api.ErrArg},
	} {
		got, e := span.Mix(c.l)
		same(t, fmt.Sprint("Mix ", c.l), got, e, c.want, c.e)
	}
	for _, bad := range badSap {
		got, e := span.Mix([]api.Sap{s(1, 1), bad})
		same(t, fmt.Sprint("Mix with ", bad), got, e, s(0, 0), api.ErrArg)
	}
}

func TestP1_7Draw(t *testing.T) {
	for _, c := range []struct {
		s           api.Sap
		mass        int
		drawn, left api.Sap
		e           api.Errno
	}{
		{s(970, 30), 100, s(97, 3), s(873, 27), api.OK},
		{s(970, 30), 33, s(33, 0), s(937, 30), api.OK},
		{s(970, 30), 34, s(33, 1), s(937, 29), api.OK},
		{s(970, 30), 1, s(1, 0), s(969, 30), api.OK},
		{s(970, 30), 999, s(970, 29), s(0, 1), api.OK},
		{s(970, 30), 0, s(0, 0), s(970, 30), api.OK},
		{s(970, 30), 1000, s(970, 30), s(0, 0), api.OK},
		{s(0, 30), 7, s(0, 7), s(0, 23), api.OK},
		{s(30, 0), 7, s(7, 0), s(23, 0), api.OK},
		{s(0, 0), 0, s(0, 0), s(0, 0), api.OK},
		{s(0, 0), 1, s(0, 0), s(0, 0), api.ErrRange},
		{s(ton, ton), 2 * ton, s(ton, ton), s(0, 0), api.OK},
		{s(ton, ton), 2*ton - 1, s(ton, ton-1), s(0, 1), api.OK},
		{s(1, ton), ton, s(1, ton-1), s(0, 1), api.OK},
		{s(970, 30), 1001, s(0, 0), s(0, 0), api.ErrRange},
		{s(970, 30), -1, s(0, 0), s(0, 0), api.ErrRange},
		{s(970, 30), low, s(0, 0), s(0, 0), api.ErrRange},
		{s(970, 30), high, s(0, 0), s(0, 0), api.ErrRange},
		{s(970, -1), -1, s(0, 0), s(0, 0), api.ErrArg},
	} {
		drawn, left, e := span.Draw(c.s, c.mass)
		same(t, fmt.Sprint("Draw ", c.s, c.mass), drawn, e, c.drawn, c.e)
		same(t, fmt.Sprint("left by Draw ", c.s, c.mass), left, e, c.left, c.e)
	}
	for _, bad := range badSap {
		drawn, left, e := span.Draw(bad, 0)
		same(t, fmt.Sprint("Draw of ", bad), drawn, e, s(0, 0), api.ErrArg)
		same(t, fmt.Sprint("left by Draw of ", bad), left, e, s(0, 0), api.ErrArg)
	}
}

func TestP1_8Split(t *testing.T) {
	for _, c := range []struct {
		s       api.Sap
		weights []int
		want    []api.Sap
		e       api.Errno
	}{
		{s(97, 3), []int{1}, []api.Sap{s(97, 3)}, api.OK},
		{s(97, 3), []int{1, 1}, []api.Sap{s(49, 1), s(48, 2)}, api.OK},
		{s(97, 3), []int{1, 1, 1}, []api.Sap{s(33, 1), s(32, 1), s(32, 1)}, api.OK},
		{s(97, 3), []int{0, 2, 0, 1, 0}, []api.Sap{s(0, 0), s(65, 2), s(0, 0), s(32, 1), s(0, 0)}, api.OK},
		{s(0, 0), []int{3, 4}, []api.Sap{s(0, 0), s(0, 0)}, api.OK},
		{s(0, 1), []int{1, 1}, []api.Sap{s(0, 1), s(0, 0)}, api.OK},
		{s(ton, ton), []int{1000000, 1000000}, []api.Sap{s(ton/2, ton/2), s(ton/2, ton/2)}, api.OK},
		{s(1, 1), nil, nil, api.ErrArg},
		{s(1, 1), []int{0}, nil, api.ErrArg},
		{s(1, 1), []int{1, -1}, nil, api.ErrArg},
		{s(1, 1), []int{1000001}, nil, api.ErrArg},
		{s(1, 1), slices.Repeat([]int{-1}, 101), nil, api.ErrLong},
		{s(-1, 1), slices.Repeat([]int{1}, 101), nil, api.ErrArg},
	} {
		got, e := span.Split(c.s, c.weights)
		sameList(t, fmt.Sprint("Split ", c.s, c.weights), got, e, c.want, c.e)
	}
	for _, bad := range badSap {
		got, e := span.Split(bad, []int{1})
		sameList(t, fmt.Sprint("Split of ", bad), got, e, nil, api.ErrArg)
	}
}

func TestP1_8AsDraws(t *testing.T) {
	d := dice()
	for range 500 {
		sap, weights := s(pick(d, 0, 500), pick(d, 0, 500)), pickWeights(d)
		got, e := span.Split(sap, weights)
		masses, f := span.Share(sap.Water+sap.Sugar, weights)
		if e != api.OK || f != api.OK || len(got) != len(masses) {
			t.Fatal(sap, weights, got, e, masses, f)
		}
		left := sap
		for i, mass := range masses {
			var drawn api.Sap
			drawn, left, e = span.Draw(left, mass)
			same(t, fmt.Sprint("part ", i, " of ", sap, weights), got[i], e, drawn, api.OK)
		}
	}
}

func TestP1_9Brix(t *testing.T) {
	for _, c := range []struct {
		s    api.Sap
		want api.Range
		e    api.Errno
	}{
		{s(980, 20), r(200, 200), api.OK},
		{s(970, 20), r(202, 203), api.OK},
		{s(1, 2), r(6666, 6667), api.OK},
		{s(5, 0), r(0, 0), api.OK},
		{s(0, 5), r(10000, 10000), api.OK},
		{s(ton, 1), r(0, 1), api.OK},
		{s(1, ton), r(9999, 10000), api.OK},
		{s(ton, ton), r(5000, 5000), api.OK},
		{s(0, 0), r(0, 0), api.ErrNone},
	} {
		got, e := span.Brix(c.s)
		same(t, fmt.Sprint("Brix ", c.s), got, e, c.want, c.e)
	}
	for _, bad := range badSap {
		got, e := span.Brix(bad)
		same(t, fmt.Sprint("Brix of ", bad), got, e, r(0, 0), api.ErrArg)
	}
}

func TestP1_10BoilAndThin(t *testing.T) {
	for _, c := range []struct {
		s          api.Sap
		brix       int
		boil, thin int
		e, f       api.Errno
	}{
		{s(980, 20), 6600, 970, 0, api.OK, api.ErrNone},
		{s(980, 20), 200, 0, 0, api.OK, api.OK},
		{s(980, 20), 201, 5, 0, api.OK, api.ErrNone},
		{s(980, 20), 199, 0, 5, api.OK, api.OK},
		{s(980, 20), 100, 0, 1000, api.OK, api.OK},
		{s(980, 20), 10000, 980, 0, api.OK, api.ErrNone},
		{s(0, 20), 10000, 0, 0, api.OK, api.OK},
		{s(1, 20), 10000, 1, 0, api.OK, api.ErrNone},
		{s(ton, ton), 10000, ton, 0, api.OK, api.ErrNone},
		{s(ton, ton), 5000, 0, 0, api.OK, api.OK},
		{s(ton, ton), 4999, 0, 0, api.OK, api.ErrOver},
		{s(ton-5, ton), 5001, 399920011, 0, api.OK, api.ErrNone},
		{s(0, ton/9999), 1, 0, ton/9999*10000 - ton/9999, api.OK, api.OK},
		{s(0, ton/9999+1), 1, 0, 0, api.OK, api.ErrOver},
		{s(0, 999600079985), 4999, 0, ton, api.OK, api.OK},
		{s(0, 999600079986), 4999, 0, 0, api.OK, api.ErrOver},
		{s(0, ton), 1, 0, 0, api.OK, api.ErrOver},
		{s(5, 0), 5000, 0, 0, api.ErrNone, api.ErrNone},
		{s(0, 0), 1, 0, 0, api.ErrNone, api.ErrNone},
		{s(1, 1), 0, 0, 0, api.ErrRange, api.ErrRange},
		{s(1, 1), 10001, 0, 0, api.ErrRange, api.ErrRange},
		{s(1, 1), low, 0, 0, api.ErrRange, api.ErrRange},
		{s(1, 0), -1, 0, 0, api.ErrRange, api.ErrRange},
		{s(-1, 0), -1, 0, 0, api.ErrArg, api.ErrArg},
	} {
		boil, e := span.Boil(c.s, c.brix)
		same(t, fmt.Sprint("Boil ", c.s, c.brix), boil, e, c.boil, c.e)
		thin, f := span.Thin(c.s, c.brix)
		same(t, fmt.Sprint("Thin ", c.s, c.brix), thin, f, c.thin, c.f)
	}
	for _, bad := range badSap {
		boil, e := span.Boil(bad, 1)
		same(t, fmt.Sprint("Boil of ", bad), boil, e, 0, api.ErrArg)
		thin, e := span.Thin(bad, 1)
		same(t, fmt.Sprint("Thin of ", bad), thin, e, 0, api.ErrArg)
	}
}

func TestP1_18EveryGram(t *testing.T) {
	d := dice()
	for i := range 2000 {
		limit := []int{60, ton}[i%2]
		sap := s(pick(d, 0, limit), pick(d, 0, limit))
		mass := pick(d, 0, sap.Water+sap.Sugar)
		drawn, left, e := span.Draw(sap, mass)
		all, f := span.Mix([]api.Sap{drawn, left})
		if e != api.OK || f != api.OK || all != sap || drawn.Water+drawn.Sugar != mass {
			t.Error("Draw", sap, mass, drawn, left, e, f)
		}
		if exact := down(sap.Sugar, mass, max(1, sap.Water+sap.Sugar)); int64(drawn.Sugar) != exact.Int64() {
			t.Error("a gram or more of sugar:", sap, mass, drawn, exact)
		}
		parts, e := span.Split(sap, pickWeights(d))
		all, f = span.Mix(parts)
		if e != api.OK || f != api.OK || all != sap {
			t.Error("Split", sap, parts, e, f)
		}
	}
}

func TestP1_19Boiled(t *testing.T) {
	reached := func(water, sugar, brix int) bool { return sugar*10000 >= brix*(water+sugar) }
	d := dice()
	for range 3000 {
		sap, brix := s(pick(d, 0, 3000), pick(d, 1, 300)), pick(d, 1, 10000)
		off, e := span.Boil(sap, brix)
		if e != api.OK || off < 0 || off > sap.Water || !reached(sap.Water-off, sap.Sugar, brix) || off > 0 && reached(sap.Water-off+1, sap.Sugar, brix) {
			t.Error("Boil", sap, brix, off, e)
		}
		more, e := span.Thin(sap, brix)
		if !reached(sap.Water, sap.Sugar, brix) {
			same(t, fmt.Sprint("Thin ", sap, brix), more, e, 0, api.ErrNone)
		} else if e != api.OK || !reached(sap.Water+more, sap.Sugar, brix) || reached(sap.Water+more+1, sap.Sugar, brix) {
			t.Error("Thin", sap, brix, more, e)
		}
	}
}
