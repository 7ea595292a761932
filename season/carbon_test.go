package season_test

import (
	"slices"
	"testing"

	"spile/api"
)

var (
	noPart  = api.Part{Den: 1}
	allPart = api.Part{Num: 1, Den: 1}
	half    = api.Part{Num: 1, Den: 2}
)

func TestP9_9Carbon(t *testing.T) {
	tenth, third := part(1, 10), part(1, 3)
	three := carbons(100, 100, 100)
	great := carbons(times(20, 1000000)...)
	for _, c := range []struct {
		s           api.Stand
		cut         []int
		years       int
		grow, store api.Part
		want        carbon
	}{
		{three, list(1), 2, tenth, half, carbon{242, 50, 50}}, {three, nil, 2, tenth, half, carbon{363, 0, 0}}, {three, list(0, 1, 2), 2, tenth, half, carbon{0, 150, 150}}, {three, list(2, 0, 1), 2, tenth, half, carbon{0, 150, 150}}, {three, list(2, 0), 1, tenth, third, carbon{110, 66, 134}}, {three, list(2, 0), 0, tenth, third, carbon{100, 66, 134}},
		{three, list(1), 0, allPart, half, carbon{200, 50, 50}}, {three, list(1), 1, allPart, half, carbon{400, 50, 50}}, {three, list(1), 2, allPart, half, carbon{800, 50, 50}}, {three, list(1), 2, noPart, half, carbon{200, 50, 50}}, {three, list(1), 100, noPart, half, carbon{200, 50, 50}}, {three, list(1), 2, tenth, noPart, carbon{242, 0, 100}}, {three, list(1), 2, tenth, allPart, carbon{242, 100, 0}},
		{api.Stand{}, nil, 0, noPart, noPart, carbon{}}, {api.Stand{}, nil, 100, allPart, allPart, carbon{}}, {carbons(0, 0), list(0), 100, allPart, allPart, carbon{}}, {carbons(5, 9), list(0, 1), 100, allPart, allPart, carbon{0, 14, 0}}, {carbons(5, 9), list(1, 0), 100, allPart, noPart, carbon{0, 0, 14}},
		{carbons(9, 9), list(0), 50, tenth, tenth, carbon{9, 0, 9}}, {carbons(10), nil, 10, tenth, tenth, carbon{20, 0, 0}}, {carbons(19), nil, 1, tenth, tenth, carbon{20, 0, 0}}, {carbons(19), nil, 2, tenth, tenth, carbon{22, 0, 0}}, {carbons(10, 10, 10), nil, 1, part(19, 100), half, carbon{33, 0, 0}}, {carbons(3, 3, 3), list(0, 1, 2), 0, noPart, half, carbon{0, 3, 6}}, {carbons(7), nil, 3, half, half, carbon{22, 0, 0}},
		{carbons(1), nil, 49, allPart, half, carbon{562949953421312, 0, 0}}, {carbons(1, 1), list(1), 49, allPart, half, carbon{562949953421312, 0, 1}}, {great, nil, 0, allPart, allPart, carbon{20000000, 0, 0}}, {great, nil, 25, allPart, allPart, carbon{671088640000000, 0, 0}}, {great, list(0, 1, 2, 3, 4, 5, 6, 7, 8, 9), 26, allPart, allPart, carbon{671088640000000, 10000000, 0}}, {great, nil, 100, part(1, 1000000000), part(999999999, 1000000000), carbon{20000000, 0, 0}}, {great, list(19), 0, part(999999999, 1000000000), part(999999999, 1000000000), carbon{19000000, 999999, 1}}, {great, list(19), 1, part(999999999, 1000000000), part(1, 1000000000), carbon{19 * 1999999, 0, 1000000}},
	} {
		sameCarbon(t, c.s, c.cut, c.years, c.grow, c.store, c.want, api.OK)
		if truly, e := carbonOf(c.s, c.cut, c.years, c.grow, c.store); truly != c.want || e != api.OK {
			t.Error("by the definition:", c.s, c.cut, c.years, c.grow, c.store, truly, e)
		}
	}
}

// TestP9_9Over has what stands just at MaxSpan, and beyond it.
func TestP9_9Over(t *testing.T) {
	just := carbons(times(5, 1000000)...)
	slow := part(1, 10)
	for _, c := range []struct {
		s     api.Stand
		cut   []int
		years int
		grow  api.Part
		want  api.Errno
	}{
		{carbons(1), nil, 49, allPart, api.OK}, {carbons(1), nil, 50, allPart, api.ErrOver}, {carbons(1, 1), nil, 49, allPart, api.ErrOver}, {carbons(1, 1), nil, 48, allPart, api.OK}, {carbons(1, 1), list(1), 49, allPart, api.OK}, {carbons(1, 1), list(1), 50, allPart, api.ErrOver}, {carbons(1, 1), list(0, 1), 100, allPart, api.OK}, {carbons(1, 1000000), list(1), 49, allPart, api.OK}, {carbons(1), nil, 100, allPart, api.ErrOver}, {carbons(0), nil, 100, allPart, api.OK},
		{just, nil, 27, allPart, api.OK}, {just, nil, 28, allPart, api.ErrOver}, {carbons(times(20, 1000000)...), nil, 100, allPart, api.ErrOver}, {carbons(times(20, 1000000)...), nil, 100, part(999999999, 1000000000), api.ErrOver}, {carbons(times(20, 1000000)...), nil, 100, slow, api.OK}, {carbons(times(20, 1000000)...), nil, 100, part(1, 5), api.ErrOver}, {carbons(append(times(19, 0), 1000000)...), nil, 100, part(1, 4), api.ErrOver},
	} {
		want, e := carbonOf(c.s, c.cut, c.years, c.grow, half)
		if e != c.want {
			t.Error("by the definition:", c.s, c.years, c.grow, e)
		}
		sameCarbon(t, c.s, c.cut, c.years, c.grow, half, want, c.want)
	}
}

// TestP9_9JustSpan has trees that come to just MaxSpan together, and a tree of 1, which never grows by a quarter, too much.
func TestP9_9JustSpan(t *testing.T) {
	quarter := part(1, 4)
	sameCarbon(t, carbons(12747, 43233, 147728), nil, 100, quarter, half, carbon{api.MaxSpan - 1, 0, 0}, api.OK)
	sameCarbon(t, carbons(12747, 43233, 147728, 1), nil, 100, quarter, half, carbon{api.MaxSpan, 0, 0}, api.OK)
	sameCarbon(t, carbons(12747, 43233, 147728, 1, 1), nil, 100, quarter, half, carbon{}, api.ErrOver)
	sameCarbon(t, carbons(12747, 43233, 147728, 1, 1), list(3), 100, quarter, allPart, carbon{api.MaxSpan, 1, 0}, api.OK)
	sameCarbon(t, carbons(12747, 43233, 147728, 3), nil, 100, quarter, half, carbon{}, api.ErrOver)
}

func TestP9_9Errors(t *testing.T) {
	two := carbons(100, 100)
	bad := stand(stems(tree(0, 1)))
	tooGreat := carbons(times(20, 1000000)...)
	wrong := []api.Part{part(-1, 1), part(2, 1), part(1000000000, 999999999), part(2, 4), part(0, 2), part(1, 0), part(0, 0), part(1, -1), part(-1, -1), part(1, 1000000001), part(1000000001, 1000000001), part(low, 1), part(1, low), part(high, high), part(-1, 1000000000)}
	for _, p := range wrong {
		sameCarbon(t, two, nil, 1, p, half, carbon{}, api.ErrArg)
		sameCarbon(t, two, nil, 1, half, p, carbon{}, api.ErrArg)
		sameCarbon(t, two, list(0, 1), 0, p, p, carbon{}, api.ErrArg)
		sameCarbon(t, tooGreat, nil, 100, allPart, p, carbon{}, api.ErrArg)
		sameCarbon(t, two, list(2), 1, p, p, carbon{}, api.ErrNone)
		sameCarbon(t, two, list(0, 0), 1, p, p, carbon{}, api.ErrTwice)
		sameCarbon(t, two, list(0, 0), 101, p, p, carbon{}, api.ErrRange)
	}
	for _, c := range []struct {
		s     api.Stand
		cut   []int
		years int
		want  api.Errno
	}{
		{bad, list(5, 5), -1, api.ErrArg}, {bad, nil, 1, api.ErrArg}, {two, list(5, 5), -1, api.ErrRange}, {two, list(1), -1, api.ErrRange}, {two, list(1), 101, api.ErrRange}, {two, list(1), low, api.ErrRange}, {two, list(1), high, api.ErrRange}, {two, list(1), 100, api.OK}, {two, list(1), 0, api.OK},
		{two, list(2), 1, api.ErrNone}, {two, list(-1), 1, api.ErrNone}, {two, list(low), 1, api.ErrNone}, {two, list(high), 1, api.ErrNone}, {two, list(1, 1), 1, api.ErrTwice}, {two, list(0, 1, 0), 1, api.ErrTwice}, {two, list(0, 0, 2), 1, api.ErrTwice}, {two, list(0, 2, 0), 1, api.ErrNone}, {two, list(2, 2), 1, api.ErrNone}, {two, list(0, 0, 0), 1, api.ErrTwice}, {two, make([]int, 100000), 1, api.ErrTwice}, {two, list(0, 1, 2), 1, api.ErrNone}, {api.Stand{}, list(0), 1, api.ErrNone}, {two, list(1, 0), 1, api.OK},
		{tooGreat, list(20), 100, api.ErrNone}, {tooGreat, list(3, 3), 100, api.ErrTwice}, {tooGreat, list(3), 101, api.ErrRange},
	} {
		want, e := carbon{}, c.want
		if e == api.OK {
			want, _ = carbonOf(c.s, c.cut, c.years, part(1, 100), half)
		}
		sameCarbon(t, c.s, c.cut, c.years, part(1, 100), half, want, e)
	}
	// Trees that stand beside each other may both be named: what may be cut is asked of Thin.
	sameCarbon(t, stand(carbons(4, 6).Stems, 0, 1), list(0, 1), 1, half, half, carbon{0, 5, 5}, api.OK)
}

// TestP9_9Definitions compares any trees, growing in any way, with the definition in big integers.
func TestP9_9Definitions(t *testing.T) {
	d := dice()
	over := 0
	for range 3000 {
		s := carbons(picks(d, pick(d, 0, 20), 0, pick(d, 0, 1000000))...)
		var cut []int
		for i := range s.Stems {
			if d.IntN(3) == 0 {
				cut = append(cut, i)
			}
		}
		d.Shuffle(len(cut), func(i, j int) { cut[i], cut[j] = cut[j], cut[i] })
		anyPart := func() api.Part {
			den := pick(d, 1, pick(d, 1, 1000000000))
			return lowestTerms(pick(d, 0, den), den)
		}
		grow, store, years := anyPart(), anyPart(), pick(d, 0, pick(d, 0, 100))
		want, e := carbonOf(s, cut, years, grow, store)
		sameCarbon(t, s, cut, years, grow, store, want, e)
		if e != api.OK {
			over++
		}
		slices.Sort(cut)
		sameCarbon(t, s, cut, years, grow, store, want, e)
	}
	if over < 100 || over > 2000 {
		t.Error("too few, or too many:", over)
	}
}
