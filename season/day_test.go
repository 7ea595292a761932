package season_test

import (
	"slices"
	"testing"

	"spile/api"
	"spile/season"
)

// evenly returns an outlook with one day's life, and scenarios with the same weight.
func evenly(runs ...[]int) api.Outlook {
	o := outlook(1)
	for _, l := range runs {
		o.Scenarios = append(o.Scenarios, scenario(1, l...))
	}
	return o
}

func TestP9_2Least(t *testing.T) {
	for _, c := range []struct {
		o     api.Outlook
		want  decided
		proof []int
	}{
		{usual(), decided{0, 4}, list(0, 1, 0, 0)},
		{seasonOf(1), decided{0, 0}, list(0)}, {seasonOf(5), decided{0, 0}, list(0, 0, 0, 0, 0)}, {seasonOf(120), decided{0, 0}, times(120, 0)}, {evenly(list(7), list(9)), decided{0, 0}, list(0)},
		{evenly(list(1, 5, 3)), decided{1, 0}, list(0, 0, 0)}, {evenly(list(5, 1, 5)), decided{0, 0}, list(0, 0, 0)}, {evenly(list(1, 5, 5)), decided{1, 0}, list(0, 0, 0)},
		{evenly(list(9, 0), list(0, 9)), decided{0, 9}, list(1, 0)}, {evenly(list(0, 9), list(9, 0)), decided{0, 9}, list(0, 1)}, {evenly(list(0, 9), list(0, 9), list(9, 0)), decided{0, 9}, list(0, 2)},
		{evenly(list(9, 5, 0), list(0, 5, 9)), decided{1, 4}, list(1, 0, 0)}, {evenly(list(9, 5, 5, 0), list(0, 5, 5, 9)), decided{1, 4}, list(1, 0, 0, 0)}, {evenly(list(9, 5, 6, 0), list(0, 6, 5, 9)), decided{1, 4}, list(1, 0, 1, 0)},
		{outlook(1, scenario(1, 9, 0), scenario(100, 0, 8)), decided{0, 8}, list(1, 0)}, {outlook(1, scenario(100, 9, 0), scenario(1, 0, 10)), decided{1, 9}, list(1, 0)},
		{evenly(list(3, 1, 2), list(3, 2, 2), list(3, 2, 1)), decided{0, 0}, list(0, 0, 0)}, {evenly(list(0, 3, 1), list(3, 0, 1), list(0, 0, 0)), decided{2, 2}, list(0, 1, 0)},
		{outlook(120, times(20, scenario(100, times(120, 1000000)...))...), decided{0, 0}, times(120, 0)},
	} {
		sameLeast(t, c.o, c.want, c.proof, api.OK)
	}
	sameLeast(t, api.Outlook{}, decided{}, nil, api.ErrArg)
}

// TestP9_2Definitions compares with the definitions; of several days with the same loss the first one is asked.
func TestP9_2Definitions(t *testing.T) {
	d := dice()
	seen := map[string]int{}
	for range 4000 {
		o := anyOutlook(d, pick(d, 1, 12))
		day, loss := firstLeast(o, worstOf)
		sameLeast(t, o, decided{day, loss}, proofOf(o, loss), api.OK)
		for other := range o.Scenarios[0].Runs {
			if other > day && worstOf(o, other) == loss {
				seen["several"]++
				break
			}
		}
		if day > 0 {
			seen["later"]++
		}
		if slices.Max(proofOf(o, loss)) > 0 {
			seen["other scenarios"]++
		}
	}
	for _, what := range []string{"several", "later", "other scenarios"} {
		if seen[what] < 300 {
			t.Error("too few:", what, seen[what])
		}
	}
}

func TestP9_2Proves(t *testing.T) {
	for _, c := range []struct {
		loss  int
		proof []int
		want  bool
		e     api.Errno
	}{
		{4, list(0, 1, 0, 0), true, api.OK}, {5, list(0, 1, 0, 0), false, api.OK}, {3, list(0, 1, 0, 0), true, api.OK}, {0, list(0, 1, 0, 0), true, api.OK}, {-1, list(0, 1, 0, 0), true, api.OK}, {low, list(1, 0, 1, 1), true, api.OK}, {high, list(0, 1, 0, 0), false, api.OK},
		{4, list(1, 1, 0, 0), false, api.OK}, {4, list(0, 0, 0, 0), false, api.OK}, {4, list(0, 1, 1, 0), false, api.OK}, {4, list(0, 1, 0, 1), false, api.OK}, {3, list(1, 1, 0, 0), true, api.OK}, {0, list(1, 0, 1, 1), true, api.OK}, {1, list(0, 0, 0, 0), false, api.OK}, {1, list(0, 1, 0, 1), false, api.OK},
		{4, nil, false, api.ErrForm}, {4, list(0, 1, 0), false, api.ErrForm}, {4, list(0, 1, 0, 0, 0), false, api.ErrForm}, {0, make([]int, 100000), false, api.ErrForm}, {4, list(0, 1, 2), false, api.ErrForm}, {4, list(-1), false, api.ErrForm},
		{4, list(0, 1, 2, 0), false, api.ErrNone}, {4, list(0, 1, -1, 0), false, api.ErrNone}, {4, list(0, 0, 0, 2), false, api.ErrNone}, {4, list(2, 1, 0, 0), false, api.ErrNone}, {5, list(0, 1, 0, 2), false, api.ErrNone}, {-5, list(0, 1, 0, high), false, api.ErrNone}, {4, list(low, 1, 0, 0), false, api.ErrNone},
	} {
		sameProves(t, usual(), c.loss, c.proof, c.want, c.e)
	}
	sameProves(t, api.Outlook{}, 0, nil, false, api.ErrArg)
	sameProves(t, api.Outlook{}, 0, list(5), false, api.ErrArg)
	sameProves(t, seasonOf(1), 0, list(0), true, api.OK)
	sameProves(t, seasonOf(1), 1, list(0), false, api.OK)
	sameProves(t, seasonOf(120), 0, times(120, 0), true, api.OK)
	sameProves(t, seasonOf(120), 0, times(121, 0), false, api.ErrForm)
	sameProves(t, outlook(1, times(20, scenario(1, 7))...), 0, list(19), true, api.OK)
	sameProves(t, outlook(1, times(20, scenario(1, 7))...), 0, list(20), false, api.ErrNone)
}

// TestP9_2ProvesDefinitions looks at any list, for any loss.
func TestP9_2ProvesDefinitions(t *testing.T) {
	d := dice()
	seen := map[bool]int{}
	for range 4000 {
		o := anyOutlook(d, pick(d, 1, 5))
		proof := picks(d, len(o.Scenarios[0].Runs), 0, len(o.Scenarios)-1)
		least := high
		for day, s := range proof {
			least = min(least, lossOf(o, s, day))
		}
		loss := pick(d, max(0, least-1), least+2)
		sameProves(t, o, loss, proof, loss <= least, api.OK)
		seen[loss <= least]++
	}
	if seen[true] < 500 || seen[false] < 500 {
		t.Error("too few:", seen)
	}
}

func TestP9_3Mean(t *testing.T) {
	for _, c := range []struct {
		o    api.Outlook
		want decided
	}{
		{usual(), decided{2, 10}}, {seasonOf(1), decided{0, 0}}, {seasonOf(120), decided{0, 0}}, {evenly(list(7), list(9)), decided{0, 0}},
		{evenly(list(1, 5, 3)), decided{1, 0}}, {evenly(list(5, 1, 5)), decided{0, 0}}, {evenly(list(9, 0), list(0, 9)), decided{0, 9}}, {evenly(list(9, 5, 0), list(0, 4, 9)), decided{0, 9}}, {evenly(list(9, 5, 0), list(0, 5, 9)), decided{1, 8}}, {evenly(list(0, 9, 5), list(9, 0, 4)), decided{0, 9}}, {evenly(list(9, 5, 5), list(0, 5, 5)), decided{1, 4}},
		{outlook(1, scenario(1, 9, 0), scenario(2, 0, 5)), decided{1, 9}}, {outlook(1, scenario(1, 9, 0), scenario(2, 0, 4)), decided{0, 8}}, {outlook(1, scenario(2, 4, 0), scenario(1, 0, 8)), decided{0, 8}}, {outlook(1, scenario(100, 1, 0), scenario(1, 0, 99)), decided{0, 99}}, {outlook(1, scenario(100, 1, 0), scenario(1, 0, 101)), decided{1, 100}},
		{outlook(120, times(20, scenario(100, append(times(119, 0), 1000000)...))...), decided{0, 0}}, {outlook(120, append(times(19, scenario(100, times(120, 1000000)...)), scenario(100, append(times(119, 0), 1)...))...), decided{0, 0}},
	} {
		sameMean(t, c.o, c.want, api.OK)
	}
	sameMean(t, api.Outlook{}, decided{}, api.ErrArg)
	// The greatest sum: with the life of a day, one scenario has all on the first day, the others on the last one; so each day loses much.
	o := outlook(1, scenario(100, append([]int{1000000}, make([]int, 119)...)...))
	for range 19 {
		o.Scenarios = append(o.Scenarios, scenario(100, append(make([]int, 119), 1000000)...))
	}
	sameMean(t, o, decided{119, 100000000}, api.OK)
}

// TestP9_3Definitions compares with the sums of all days.
func TestP9_3Definitions(t *testing.T) {
	d := dice()
	several, other := 0, 0
	for range 4000 {
		o := anyOutlook(d, pick(d, 1, 12))
		day, sum := firstLeast(o, sumOf)
		sameMean(t, o, decided{day, sum}, api.OK)
		for later := day + 1; later < len(o.Scenarios[0].Runs); later++ {
			if sumOf(o, later) == sum {
				several++
				break
			}
		}
		if least, _ := firstLeast(o, worstOf); least != day {
			other++
		}
	}
	if several < 300 || other < 300 {
		t.Error("too few:", several, other)
	}
}

func TestP9_4Beaten(t *testing.T) {
	for _, c := range []struct {
		o    api.Outlook
		want []int
	}{
		{usual(), list(-1, -1, -1, 2)}, {seasonOf(1), list(-1)}, {seasonOf(4), list(-1, -1, -1, -1)}, {seasonOf(120), times(120, -1)},
		{evenly(list(1, 2, 3)), list(1, 2, -1)}, {evenly(list(3, 2, 1)), list(-1, 0, 0)}, {evenly(list(2, 1, 3)), list(2, 0, -1)}, {evenly(list(1, 3, 2, 3)), list(1, -1, 1, -1)}, {evenly(list(5, 5, 5)), list(-1, -1, -1)},
		{evenly(list(1, 2), list(2, 1)), list(-1, -1)}, {evenly(list(1, 2), list(2, 2)), list(1, -1)}, {evenly(list(2, 2), list(1, 2)), list(1, -1)}, {evenly(list(2, 2), list(2, 1)), list(-1, 0)}, {evenly(list(2, 2), list(2, 2)), list(-1, -1)}, {evenly(list(1, 1, 2), list(1, 1, 1)), list(2, 2, -1)},
		{evenly(list(1, 1, 9, 9), list(1, 9, 1, 9)), list(1, 3, 3, -1)}, {evenly(list(9, 9, 1, 1), list(9, 1, 9, 1)), list(-1, 0, 0, 0)}, {evenly(list(9, 0, 5), list(0, 9, 5), list(5, 5, 5)), list(-1, -1, -1)}, {evenly(list(9, 0, 5), list(0, 9, 5), list(5, 5, 4)), list(-1, -1, -1)},
		{outlook(120, scenario(1, 0, 0, 7)), list(-1, -1, -1)}, {outlook(2, scenario(1, 0, 0, 7)), list(1, -1, -1)}, {outlook(120, scenario(1, 7, 7, 7)), list(-1, 0, 0)}, {outlook(1, scenario(1, 1, 2), scenario(100, 2, 1)), list(-1, -1)},
	} {
		sameBeaten(t, c.o, c.want, api.OK)
	}
	sameBeaten(t, api.Outlook{}, nil, api.ErrArg)
}

// TestP9_4Definitions compares with all other days; of several ones that beat a day the first one is asked.
func TestP9_4Definitions(t *testing.T) {
	d := dice()
	seen := map[string]int{}
	for range 4000 {
		o := anyOutlook(d, pick(d, 1, 10))
		sameBeaten(t, o, beatenOf(o), api.OK)
		for day := range o.Scenarios[0].Runs {
			many := 0
			for other := range o.Scenarios[0].Runs {
				if beatsOf(o, other, day) {
					many++
				} else if other != day && slices.Equal(ofEach(o, gainOf, other), ofEach(o, gainOf, day)) {
					seen["same gains"]++
				}
			}
			switch many {
			case 0:
				seen["none"]++
			case 1:
				seen["one"]++
			default:
				seen["several"]++
			}
		}
	}
	for _, what := range []string{"none", "one", "several", "same gains"} {
		if seen[what] < 1000 {
			t.Error("too few:", what, seen[what])
		}
	}
}

// TestP9_2Seasons looks at seasons of as many days as there can be.
func TestP9_2Seasons(t *testing.T) {
	d := dice()
	for range 10 {
		o := anyOutlook(d, 120)
		for len(o.Scenarios) < 20 {
			o.Scenarios = append(o.Scenarios, scenario(pick(d, 1, 100), picks(d, 120, 0, 1000000)...))
		}
		day, loss := firstLeast(o, worstOf)
		sameLeast(t, o, decided{day, loss}, proofOf(o, loss), api.OK)
		day, loss = firstLeast(o, sumOf)
		sameMean(t, o, decided{day, loss}, api.OK)
		sameBeaten(t, o, beatenOf(o), api.OK)
		if is, e := season.Proves(o, 0, times(120, 19)); !is || e != api.OK {
			t.Error("Proves", is, e)
		}
	}
}
