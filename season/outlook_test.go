package season_test

import (
	"fmt"
	"slices"
	"testing"

	"spile/api"
	"spile/season"
)

// checks returns the errors of all functions with an outlook.
func checks(o api.Outlook) map[string]api.Errno {
	l := map[string]api.Errno{"Check": season.Check(o)}
	days := 0
	if len(o.Scenarios) > 0 {
		days = len(o.Scenarios[0].Runs)
	}
	_, l["Gains"] = season.Gains(o, 0)
	_, l["Losses"] = season.Losses(o, 0)
	_, _, _, l["Least"] = season.Least(o)
	_, l["Proves"] = season.Proves(o, 0, make([]int, days))
	_, _, l["Mean"] = season.Mean(o)
	_, l["Beaten"] = season.Beaten(o)
	_, _, l["Plan"] = season.Plan(o, usualBushes())
	_, l["Worth"] = season.Worth(o, nil, nil)
	return l
}

// seasonOf returns an outlook of one scenario with so many days.
func seasonOf(days int) api.Outlook { return outlook(1, scenario(1, make([]int, days)...)) }

// outlookCases are outlooks at the bounds of each field, and one step beyond them.
func outlookCases() []struct {
	o    api.Outlook
	want api.Errno
} {
	one := scenario(1, 0, 0, 0, 0)
	run := func(n int) api.Outlook { return with(func(o *api.Outlook) { o.Scenarios[1].Runs[2] = n }) }
	first := func(n int) api.Outlook { return with(func(o *api.Outlook) { o.Scenarios[0].Runs[0] = n }) }
	weight := func(n int) api.Outlook { return with(func(o *api.Outlook) { o.Scenarios[0].Weight = n }) }
	last := func(n int) api.Outlook { return with(func(o *api.Outlook) { o.Scenarios[1].Weight = n }) }
	life := func(n int) api.Outlook { return with(func(o *api.Outlook) { o.Life = n }) }
	runs := func(n ...int) api.Outlook { return with(func(o *api.Outlook) { o.Scenarios[1].Runs = n }) }
	return []struct {
		o    api.Outlook
		want api.Errno
	}{
		{usual(), api.OK}, {api.Outlook{}, api.ErrArg}, {outlook(1), api.ErrArg}, {outlook(1, one), api.OK}, {outlook(1, times(20, one)...), api.OK}, {outlook(1, times(21, one)...), api.ErrArg}, {outlook(1, times(1000, one)...), api.ErrArg}, {outlook(0, one), api.ErrArg},
		{life(-1), api.ErrArg}, {life(0), api.ErrArg}, {life(1), api.OK}, {life(4), api.OK}, {life(5), api.OK}, {life(119), api.OK}, {life(120), api.OK}, {life(121), api.ErrArg}, {life(low), api.ErrArg}, {life(high), api.ErrArg},
		{weight(0), api.ErrArg}, {weight(-1), api.ErrArg}, {weight(1), api.OK}, {weight(100), api.OK}, {weight(101), api.ErrArg}, {weight(low), api.ErrArg}, {weight(high), api.ErrArg}, {last(0), api.ErrArg}, {last(100), api.OK}, {last(101), api.ErrArg},
		{run(-1), api.ErrArg}, {run(0), api.OK}, {run(1000000), api.OK}, {run(1000001), api.ErrArg}, {run(low), api.ErrArg}, {run(high), api.ErrArg}, {first(-1), api.ErrArg}, {first(1000000), api.OK}, {first(1000001), api.ErrArg},
		{runs(), api.ErrArg}, {runs(1, 2, 3), api.ErrArg}, {runs(1, 2, 3, 4), api.OK}, {runs(1, 2, 3, 4, 5), api.ErrArg},
		{seasonOf(0), api.ErrArg}, {seasonOf(1), api.OK}, {seasonOf(120), api.OK}, {seasonOf(121), api.ErrArg}, {seasonOf(100000), api.ErrArg}, {outlook(1, times(20, scenario(100, times(120, 1000000)...))...), api.OK}, {outlook(1, append(times(19, one), scenario(1, 0, 0, 0))...), api.ErrArg}, {outlook(1, scenario(1), scenario(1)), api.ErrArg},
	}
}

func TestP9_1Check(t *testing.T) {
	for _, c := range outlookCases() {
		for name, e := range checks(c.o) {
			sameErr(t, fmt.Sprint(name, " ", c.o), e, c.want)
		}
	}
}

func TestP9_1Days(t *testing.T) {
	for _, c := range []struct {
		o    api.Outlook
		day  int
		want api.Errno
	}{
		{usual(), 0, api.OK}, {usual(), 3, api.OK}, {usual(), 4, api.ErrRange}, {usual(), -1, api.ErrRange}, {usual(), low, api.ErrRange}, {usual(), high, api.ErrRange}, {seasonOf(1), 0, api.OK}, {seasonOf(1), 1, api.ErrRange}, {seasonOf(120), 119, api.OK}, {seasonOf(120), 120, api.ErrRange}, {seasonOf(121), 0, api.ErrArg}, {seasonOf(121), 121, api.ErrArg}, {api.Outlook{}, -1, api.ErrArg},
	} {
		gains, e := season.Gains(c.o, c.day)
		sameErr(t, fmt.Sprint("Gains on the day ", c.day), e, c.want)
		losses, e := season.Losses(c.o, c.day)
		sameErr(t, fmt.Sprint("Losses on the day ", c.day), e, c.want)
		if c.want != api.OK && len(gains)+len(losses) > 0 {
			t.Error("beside an error:", gains, losses)
		}
	}
}

func TestP9_1Gains(t *testing.T) {
	life := func(n int) api.Outlook { return with(func(o *api.Outlook) { o.Life = n }) }
	full := outlook(120, times(20, scenario(100, times(120, 1000000)...))...)
	for _, c := range []struct {
		o             api.Outlook
		day           int
		gains, losses []int
	}{
		{usual(), 0, list(10, 6), list(4, 3)}, {usual(), 1, list(14, 0), list(0, 9)}, {usual(), 2, list(4, 9), list(10, 0)}, {usual(), 3, list(0, 9), list(14, 0)},
		{life(1), 0, list(0, 6), list(10, 3)}, {life(1), 1, list(10, 0), list(0, 9)}, {life(1), 2, list(4, 0), list(6, 9)}, {life(1), 3, list(0, 9), list(10, 0)},
		{life(3), 0, list(14, 6), list(0, 3)}, {life(3), 1, list(14, 9), list(0, 0)}, {life(3), 2, list(4, 9), list(10, 0)}, {life(3), 3, list(0, 9), list(14, 0)},
		{life(4), 0, list(14, 15), list(0, 0)}, {life(4), 1, list(14, 9), list(0, 6)}, {life(5), 0, list(14, 15), list(0, 0)}, {life(5), 2, list(4, 9), list(10, 6)}, {life(120), 0, list(14, 15), list(0, 0)}, {life(120), 3, list(0, 9), list(14, 6)},
		{seasonOf(1), 0, list(0), list(0)}, {outlook(1, scenario(7, 5)), 0, list(5), list(0)}, {outlook(120, scenario(7, 5)), 0, list(5), list(0)}, {outlook(2, scenario(7, 5, 5, 5)), 1, list(10), list(0)}, {outlook(2, scenario(7, 5, 5, 5)), 2, list(5), list(5)},
		{full, 0, times(20, 120000000), times(20, 0)}, {full, 1, times(20, 119000000), times(20, 1000000)}, {full, 119, times(20, 1000000), times(20, 119000000)},
	} {
		sameGains(t, c.o, c.day, c.gains, api.OK)
		sameLosses(t, c.o, c.day, c.losses, api.OK)
	}
}

// TestP9_1Definitions compares each day with what it gains and loses by the definitions.
func TestP9_1Definitions(t *testing.T) {
	d := dice()
	for range 1500 {
		o := anyOutlook(d, pick(d, 1, 15))
		for day := range o.Scenarios[0].Runs {
			sameGains(t, o, day, ofEach(o, gainOf, day), api.OK)
			sameLosses(t, o, day, ofEach(o, lossOf, day), api.OK)
		}
	}
	for _, days := range []int{119, 120} {
		o := anyOutlook(d, days)
		for _, o.Life = range []int{1, 2, days - 1, days, 120} {
			for day := range days {
				sameGains(t, o, day, ofEach(o, gainOf, day), api.OK)
				sameLosses(t, o, day, ofEach(o, lossOf, day), api.OK)
			}
		}
	}
}

// TestP9_1BestDay shows that in each scenario some day loses nothing, and that gain and loss make up the same for all days.
func TestP9_1BestDay(t *testing.T) {
	d := dice()
	for range 500 {
		o := anyOutlook(d, pick(d, 1, 15))
		for s := range o.Scenarios {
			var losses, sums []int
			for day := range o.Scenarios[0].Runs {
				gains, _ := season.Gains(o, day)
				lost, _ := season.Losses(o, day)
				losses, sums = append(losses, lost[s]), append(sums, gains[s]+lost[s])
			}
			if slices.Min(losses) != 0 || slices.Min(sums) != slices.Max(sums) {
				t.Fatal("gains and losses:", o, s, losses, sums)
			}
		}
	}
}
