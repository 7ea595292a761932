package vat_test

import (
	"fmt"
	"math/rand/v2"
	"testing"

	"spile/api"
	"spile/vat"
)

// sameRounds asks Rounds.
func sameRounds(t *testing.T, what string, a api.Sap, take, pass, rounds int, want [2]api.Sap, wantErr api.Errno) {
	t.Helper()
	kept, gone, e := vat.Rounds(a, take, pass, rounds)
	same(t, fmt.Sprint("Rounds: ", what, " ", a, take, pass, rounds), [2]api.Sap{kept, gone}, e, want, wantErr)
}

// sameSqueeze asks Squeeze, and Rounds for one round.
func sameSqueeze(t *testing.T, a api.Sap, take, pass int, want [2]api.Sap, wantErr api.Errno) {
	t.Helper()
	kept, gone, e := vat.Squeeze(a, take, pass)
	same(t, fmt.Sprint("Squeeze ", a, take, pass), [2]api.Sap{kept, gone}, e, want, wantErr)
	sameRounds(t, "one", a, take, pass, 1, want, wantErr)
}

// rounds returns what is kept, and what has gone, by the definitions.
func rounds(a api.Sap, take, pass, n int) [2]api.Sap {
	var off api.Sap
	for range n {
		x := s(down(10000, a.Water, take), 0)
		if a.Water > 0 {
			x.Sugar = down(a.Water*10000, a.Sugar, x.Water, pass)
		}
		a, off = s(a.Water-x.Water, a.Sugar-x.Sugar), add(off, x)
	}
	return [2]api.Sap{a, off}
}

func TestP6_9Squeeze(t *testing.T) {
	for _, c := range []struct {
		sap        api.Sap
		take, pass int
		want       [2]api.Sap
	}{
		{s(900, 100), 5000, 200, [2]api.Sap{s(450, 99), s(450, 1)}},
		{s(900, 100), 5000, 199, [2]api.Sap{s(450, 100), s(450, 0)}},
		{s(900, 100), 5000, 0, [2]api.Sap{s(450, 100), s(450, 0)}},
		{s(900, 100), 5000, 10000, [2]api.Sap{s(450, 50), s(450, 50)}},
		{s(900, 100), 10000, 10000, [2]api.Sap{s(0, 0), s(900, 100)}},
		{s(900, 100), 10000, 0, [2]api.Sap{s(0, 100), s(900, 0)}},
		{s(900, 100), 10000, 9999, [2]api.Sap{s(0, 1), s(900, 99)}},
		{s(900, 100), 0, 10000, [2]api.Sap{s(900, 100), s(0, 0)}},
		{s(0, 0), 10000, 10000, [2]api.Sap{s(0, 0), s(0, 0)}},
		{s(0, 0), 0, 0, [2]api.Sap{s(0, 0), s(0, 0)}},
		{s(0, 100), 10000, 10000, [2]api.Sap{s(0, 100), s(0, 0)}},
		{s(100, 0), 3333, 10000, [2]api.Sap{s(67, 0), s(33, 0)}},
		{s(3, 100), 3333, 10000, [2]api.Sap{s(3, 100), s(0, 0)}},
		{s(3, 100), 3334, 10000, [2]api.Sap{s(2, 67), s(1, 33)}},
		{s(1, 1), 9999, 10000, [2]api.Sap{s(1, 1), s(0, 0)}},
		{s(ton, ton), 10000, 10000, [2]api.Sap{s(0, 0), s(ton, ton)}},
		{s(ton, ton), 10000, 9999, [2]api.Sap{s(0, ton/10000), s(ton, ton/10000*9999)}},
		{s(ton, ton), 1, 1, [2]api.Sap{s(ton/10000*9999, ton-10000), s(ton/10000, 10000)}},
		{s(1, ton), 10000, 10000, [2]api.Sap{s(0, 0), s(1, ton)}},
		{s(999999999989, 999999999959), 9973, 9967, rounds(s(999999999989, 999999999959), 9973, 9967, 1)},
	} {
		sameSqueeze(t, c.sap, c.take, c.pass, c.want, api.OK)
	}
}

func TestP6_9Errors(t *testing.T) {
	none := [2]api.Sap{}
	for _, c := range []struct {
		sap        api.Sap
		take, pass int
		want       api.Errno
	}{
		{s(-1, 0), 0, 0, api.ErrArg}, {s(0, -1), 0, 0, api.ErrArg}, {s(ton+1, 0), 0, 0, api.ErrArg}, {s(0, ton+1), 0, 0, api.ErrArg}, {s(low, high), 0, 0, api.ErrArg},
		{s(-1, 0), -1, -1, api.ErrArg}, {s(0, ton+1), 10001, 10001, api.ErrArg},
		{s(9, 1), -1, 0, api.ErrRange}, {s(9, 1), 10001, 0, api.ErrRange}, {s(9, 1), 0, -1, api.ErrRange}, {s(9, 1), 0, 10001, api.ErrRange}, {s(9, 1), low, high, api.ErrRange}, {s(0, 0), high, low, api.ErrRange},
	} {
		sameSqueeze(t, c.sap, c.take, c.pass, none, c.want)
		for _, n := range list(0, 200, -1, 201) {
			sameRounds(t, "errors", c.sap, c.take, c.pass, n, none, c.want)
		}
	}
	for _, n := range list(-1, 201, low, high) {
		sameRounds(t, "too many", s(9, 1), 5000, 5000, n, none, api.ErrRange)
		sameRounds(t, "too many of nothing", s(0, 0), 0, 0, n, none, api.ErrRange)
		sameRounds(t, "too many of bad sap", s(-1, 0), 0, 0, n, none, api.ErrArg)
	}
}

func TestP6_9Rounds(t *testing.T) {
	for _, c := range []struct {
		sap                api.Sap
		take, pass, rounds int
		want               [2]api.Sap
	}{
		{s(900, 100), 5000, 200, 0, [2]api.Sap{s(900, 100), s(0, 0)}},
		{s(900, 100), 5000, 200, 2, [2]api.Sap{s(225, 99), s(675, 1)}},
		{s(900, 100), 5000, 400, 2, [2]api.Sap{s(225, 97), s(675, 3)}},
		{s(900, 100), 5000, 10000, 200, [2]api.Sap{s(1, 1), s(899, 99)}},
		{s(900, 100), 0, 10000, 200, [2]api.Sap{s(900, 100), s(0, 0)}},
		{s(900, 100), 10000, 5000, 200, [2]api.Sap{s(0, 50), s(900, 50)}},
		{s(900, 100), 1, 10000, 200, [2]api.Sap{s(900, 100), s(0, 0)}},
		{s(0, 100), 10000, 10000, 200, [2]api.Sap{s(0, 100), s(0, 0)}},
		{s(0, 0), 10000, 10000, 200, [2]api.Sap{s(0, 0), s(0, 0)}},
		{s(100, 0), 5000, 10000, 200, [2]api.Sap{s(1, 0), s(99, 0)}},
		{s(ton, ton), 1, 10000, 200, rounds(s(ton, ton), 1, 10000, 200)},
		{s(ton, ton), 500, 7, 199, rounds(s(ton, ton), 500, 7, 199)},
	} {
		sameRounds(t, "some", c.sap, c.take, c.pass, c.rounds, c.want, api.OK)
	}
}

// anyAmount returns a number up to another one; it has any length.
func anyAmount(d *rand.Rand, most int) int {
	for d.IntN(3) > 0 && most > 10 {
		most /= 10
	}
	return pick(d, 0, most)
}

func TestP6_9Definitions(t *testing.T) {
	d := dice()
	for range 20000 {
		a, take, pass := s(anyAmount(d, ton), anyAmount(d, ton)), anyAmount(d, 10000), anyAmount(d, 10000)
		if d.IntN(2) == 0 {
			take, pass = 10000-take, 10000-pass
		}
		sameSqueeze(t, a, take, pass, rounds(a, take, pass, 1), api.OK)
		n := anyAmount(d, 200)
		sameRounds(t, "any", a, take, pass, n, rounds(a, take, pass, n), api.OK)
	}
}

// sameReach asks Reach.
func sameReach(t *testing.T, a api.Sap, take int, pass api.Range, brix, most int, want api.Range, wantErr api.Errno) {
	t.Helper()
	got, e := vat.Reach(a, api.Membrane{Take: take, Pass: pass}, brix, most)
	same(t, fmt.Sprint("Reach ", a, take, pass, brix, most), got, e, want, wantErr)
}

func TestP6_10Reach(t *testing.T) {
	a, none := s(900, 100), r(0, 0)
	for _, c := range []struct {
		sap        api.Sap
		take       int
		pass       api.Range
		brix, most int
		want       api.Range
		e          api.Errno
	}{
		{a, 5000, r(0, 200), 2000, 2, one(2), api.OK},
		{a, 5000, r(0, 200), 2000, 200, one(2), api.OK},
		{a, 5000, r(0, 200), 2000, 1, none, api.ErrNone},
		{a, 5000, r(0, 200), 1000, 0, one(0), api.OK},
		{a, 5000, r(0, 10000), 1000, 200, one(0), api.OK},
		{a, 5000, r(0, 10000), 1, 0, one(0), api.OK},
		{a, 5000, r(0, 10000), 1001, 0, none, api.ErrNone},
		// 100 of 550 grams are 18.18 percent, and 99 of 549 are 18.03.
		{a, 5000, r(0, 199), 1818, 1, one(1), api.OK},
		{a, 5000, r(0, 200), 1818, 1, none, api.ErrNone},
		{a, 5000, r(0, 200), 1818, 9, r(1, 2), api.OK},
		{a, 5000, one(199), 1818, 9, one(1), api.OK},
		{a, 5000, one(200), 1818, 9, one(2), api.OK},
		{a, 5000, r(0, 200), 1819, 9, one(2), api.OK},
		{a, 5000, r(0, 200), 1803, 9, one(1), api.OK},
		{a, 5000, r(0, 200), 1804, 9, r(1, 2), api.OK},
		{a, 10000, r(0, 9999), 10000, 1, one(1), api.OK},
		{a, 10000, r(0, 10000), 10000, 200, none, api.ErrNone},
		{a, 10000, one(10000), 1000, 200, one(0), api.OK},
		{a, 0, r(0, 0), 1001, 200, none, api.ErrNone},
		{a, 1, r(0, 0), 1001, 200, none, api.ErrNone},
		{s(0, 100), 5000, r(0, 10000), 10000, 0, one(0), api.OK},
		{s(0, 0), 5000, r(0, 10000), 1, 200, none, api.ErrNone},
		{s(100, 0), 10000, r(0, 10000), 1, 200, none, api.ErrNone},
		{s(ton, ton), 10000, one(0), 10000, 200, one(1), api.OK},
		{s(ton, 1), 5000, one(0), 1, 200, one(27), api.OK},
		{s(ton, 1), 5000, one(0), 5000, 200, one(40), api.OK},
		{s(ton, ton), 5000, one(0), 5000, 200, one(0), api.OK},
		{s(ton, ton), 5000, one(0), 5001, 200, one(1), api.OK},
		{s(ton, ton-1), 5000, one(0), 5000, 200, one(1), api.OK},
		{s(ton, ton), 100, r(0, 1), 8811, 200, one(200), api.OK},
		{s(ton, ton), 100, r(0, 1), 8811, 199, none, api.ErrNone},
		{s(ton, ton), 100, r(0, 1), 8822, 200, none, api.ErrNone},
	} {
		sameReach(t, c.sap, c.take, c.pass, c.brix, c.most, c.want, c.e)
	}
}

func TestP6_10Errors(t *testing.T) {
	a, none := s(900, 100), r(0, 0)
	for _, c := range []struct {
		sap        api.Sap
		take       int
		pass       api.Range
		brix, most int
		e          api.Errno
	}{
		{s(-1, 100), 5000, r(0, 200), 2000, 2, api.ErrArg}, {s(900, -1), 5000, r(0, 200), 2000, 2, api.ErrArg}, {s(ton+1, 1), 5000, r(0, 200), 2000, 2, api.ErrArg}, {s(1, high), 5000, r(0, 200), 2000, 2, api.ErrArg},
		{a, -1, r(0, 200), 2000, 2, api.ErrArg}, {a, 10001, r(0, 200), 2000, 2, api.ErrArg}, {a, 5000, r(-1, 200), 2000, 2, api.ErrArg}, {a, 5000, r(0, 10001), 2000, 2, api.ErrArg}, {a, 5000, r(201, 200), 2000, 2, api.ErrArg}, {a, 5000, r(low, high), 2000, 2, api.ErrArg},
		{a, 5000, r(0, 200), 0, 2, api.ErrRange}, {a, 5000, r(0, 200), -1, 2, api.ErrRange}, {a, 5000, r(0, 200), 10001, 2, api.ErrRange}, {a, 5000, r(0, 200), high, 2, api.ErrRange},
		{a, 5000, r(0, 200), 2000, -1, api.ErrRange}, {a, 5000, r(0, 200), 2000, 201, api.ErrRange}, {a, 5000, r(0, 200), 2000, low, api.ErrRange}, {s(0, 0), 5000, r(0, 200), 2000, 201, api.ErrRange}, {s(0, 0), 5000, r(0, 200), 0, 1, api.ErrRange},
		{s(-1, 100), 10001, r(0, 200), 0, 201, api.ErrArg}, {a, 10001, r(0, 200), 0, 201, api.ErrArg}, {a, 5000, r(1, 0), 0, 201, api.ErrArg},
		{s(0, 0), 5000, r(0, 200), 1, 200, api.ErrNone}, {s(0, 0), 0, one(0), 1, 0, api.ErrNone},
	} {
		sameReach(t, c.sap, c.take, c.pass, c.brix, c.most, none, c.e)
	}
}

// needed returns the least number of rounds that reaches a concentration, by Rounds.
func needed(t *testing.T, a api.Sap, take, pass, brix, most int) (int, bool) {
	t.Helper()
	for n := range most + 1 {
		kept, _, e := vat.Rounds(a, take, pass, n)
		if e != api.OK {
			t.Fatal("Rounds", a, take, pass, n, e)
		}
		if kept.Sugar > 0 && kept.Sugar*10000 >= brix*mass(kept) {
			return n, true
		}
	}
	return 0, false
}

// TestP6_10Definitions looks at each number of Pass.
func TestP6_10Definitions(t *testing.T) {
	d := dice()
	several, none := 0, 0
	for range 3000 {
		a, take, brix, most := s(anyAmount(d, 10000), anyAmount(d, 1000)), pick(d, 0, 10000), anyAmount(d, 9999)+1, anyAmount(d, 20)
		pass := r(pick(d, 0, 9000), 0)
		pass.High = pass.Low + anyAmount(d, 1000)
		if d.IntN(2) == 0 {
			a, take, most = s(pick(d, 1000, 20000), pick(d, 100, 3000)), pick(d, 100, 3000), 60
		}
		var want api.Range
		wantErr := api.OK
		for x := pass.Low; x <= pass.High; x++ {
			n, ok := needed(t, a, take, x, brix, most)
			if !ok {
				want, wantErr = r(0, 0), api.ErrNone
				none++
				break
			}
			if x == pass.Low {
				want = one(n)
			}
			want = r(min(want.Low, n), max(want.High, n))
		}
		if want.Low < want.High {
			several++
		}
		sameReach(t, a, take, pass, brix, most, want, wantErr)
	}
	if several < 50 || none < 500 {
		t.Error("too few of some kind:", several, none)
	}
}
