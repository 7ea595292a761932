package season_test

import (
	"fmt"
	"slices"
	"testing"

	"spile/api"
	"spile/season"
)

// runs returns an outlook with one scenario and one day's life, so that a day gains just what it runs.
func runs(l ...int) api.Outlook { return outlook(1, scenario(1, l...)) }

// bushCases are bushes at the bounds of each field, and one step beyond them.
func bushCases() []struct {
	b    api.SeasonBush
	want api.Errno
} {
	return []struct {
		b    api.SeasonBush
		want api.Errno
	}{
		{bush(10, 1, 100), api.OK}, {api.SeasonBush{}, api.ErrArg},
		{bush(0, 1, 100), api.OK}, {bush(-1, 1, 100), api.ErrArg}, {bush(10000, 1, 100), api.OK}, {bush(10001, 1, 100), api.ErrArg}, {bush(low, 1, 100), api.ErrArg}, {bush(high, 1, 100), api.ErrArg},
		{bush(10, 0, 100), api.ErrArg}, {bush(10, -1, 100), api.ErrArg}, {bush(10, 120, 100), api.OK}, {bush(10, 121, 100), api.ErrArg}, {bush(10, low, 100), api.ErrArg}, {bush(10, high, 100), api.ErrArg},
		{bush(10, 1, 0), api.OK}, {bush(10, 1, -1), api.ErrArg}, {bush(10, 1, 101), api.ErrArg}, {bush(10, 1, low), api.ErrArg}, {bush(10, 1, high), api.ErrArg},
	}
}

// TestP9_5Bushes asks about bushes alone, and about them among others.
func TestP9_5Bushes(t *testing.T) {
	fine := bush(10, 1, 100)
	for _, c := range bushCases() {
		for _, l := range [][]api.SeasonBush{bushes(c.b), bushes(c.b, fine), bushes(fine, c.b), bushes(fine, fine, fine, fine, fine, c.b)} {
			_, e := season.Worth(usual(), l, times(len(l), -1))
			sameErr(t, fmt.Sprint("Worth ", l), e, c.want)
			days, gain, e := season.Plan(usual(), l)
			sameErr(t, fmt.Sprint("Plan ", l), e, c.want)
			if e != api.OK && (len(days) > 0 || gain != 0) {
				t.Error("beside an error:", days, gain)
			}
		}
	}
}

func TestP9_5Worth(t *testing.T) {
	pair := func(a, b int) []api.SeasonBush { return bushes(bush(10, a, 100), bush(10, b, 100)) }
	for _, c := range []struct {
		l    []api.SeasonBush
		days []int
		want int
		e    api.Errno
	}{
		{nil, nil, 0, api.OK}, {usualBushes(), list(0, 1), 45000, api.OK}, {usualBushes(), list(1, 0), 45000, api.OK}, {usualBushes(), list(1, 2), 58000, api.OK}, {usualBushes(), list(2, 1), 58000, api.OK}, {usualBushes(), list(0, 2), 41000, api.OK}, {usualBushes(), list(0, 3), 14000, api.OK}, {usualBushes(), list(3, 2), 27000, api.OK},
		{usualBushes(), list(-1, -1), 0, api.OK}, {usualBushes(), list(0, -1), 14000, api.OK}, {usualBushes(), list(-1, 1), 31000, api.OK}, {usualBushes(), list(-1, 3), 0, api.OK},
		{usualBushes(), list(0, 0), 0, api.ErrState}, {usualBushes(), list(3, 3), 0, api.ErrState}, {bushes(bush(0, 1, 0), bush(0, 1, 0)), list(2, 2), 0, api.ErrState},
		{pair(2, 1), list(0, 1), 0, api.ErrState}, {pair(2, 1), list(0, 2), 58000, api.OK}, {pair(2, 1), list(0, 3), 31000, api.OK}, {pair(2, 1), list(1, 0), 41000, api.OK}, {pair(2, 1), list(1, 2), 0, api.ErrState}, {pair(2, 1), list(1, 3), 27000, api.OK}, {pair(2, 1), list(2, 3), 0, api.ErrState}, {pair(2, 1), list(3, 2), 27000, api.OK},
		{pair(1, 2), list(1, 0), 0, api.ErrState}, {pair(1, 2), list(2, 0), 58000, api.OK}, {pair(1, 3), list(3, 0), 27000, api.OK}, {pair(1, 3), list(2, 0), 0, api.ErrState}, {pair(1, 4), list(3, 0), 0, api.ErrState}, {pair(1, 120), list(0, 1), 14000, api.OK}, {pair(1, 120), list(2, 1), 0, api.ErrState}, {pair(120, 120), list(0, 3), 0, api.ErrState}, {pair(120, 120), list(3, -1), 0, api.OK},
		{bushes(bush(7, 3, 100)), list(0), 100 * 7 * 27, api.OK}, {bushes(bush(7, 4, 100)), list(0), 0, api.OK}, {bushes(bush(7, 3, 100)), list(1), 0, api.OK}, {bushes(bush(7, 5, 100)), list(0), 0, api.OK}, {bushes(bush(7, 120, 100)), list(0), 0, api.OK},
		{bushes(bush(0, 1, 100)), list(1), 0, api.OK}, {bushes(bush(7, 1, 0)), list(1), 0, api.OK}, {bushes(bush(7, 1, 1)), list(1), 7 * 31, api.OK}, {bushes(bush(3, 1, 33)), list(0), 3 * 33 * 14, api.OK},
		{bushes(bush(1, 1, 100), bush(2, 1, 50), bush(3, 1, 10)), list(2, 0, 1), 2700 + 100*14 + 30*31, api.OK}, {bushes(bush(1, 1, 100), bush(2, 1, 50), bush(3, 1, 10)), list(2, -1, 1), 2700 + 30*31, api.OK}, {bushes(bush(1, 1, 100), bush(2, 1, 50), bush(3, 1, 10)), list(2, 0, 2), 0, api.ErrState}, {bushes(bush(1, 1, 100), bush(2, 1, 50), bush(3, 1, 10)), list(-1, 0, 0), 0, api.ErrState},
	} {
		sameWorth(t, usual(), c.l, c.days, c.want, c.e)
	}
}

// TestP9_5Errors has several errors at once: the one named first is returned.
func TestP9_5Errors(t *testing.T) {
	fine, bad := bush(10, 1, 100), bush(10, 0, 100)
	for _, c := range []struct {
		o    api.Outlook
		l    []api.SeasonBush
		days []int
		want api.Errno
	}{
		{api.Outlook{}, times(7, bad), list(9), api.ErrArg}, {usual(), times(7, fine), list(9), api.ErrLong}, {usual(), times(7, bad), nil, api.ErrLong}, {usual(), times(100000, fine), times(100000, 0), api.ErrLong}, {usual(), times(7, fine), times(7, -1), api.ErrLong}, {usual(), times(6, fine), times(6, -1), api.OK},
		{usual(), bushes(bad), nil, api.ErrArg}, {usual(), bushes(fine, bad), list(0, 0, 9), api.ErrArg},
		{usual(), bushes(fine, fine), nil, api.ErrForm}, {usual(), bushes(fine, fine), list(0), api.ErrForm}, {usual(), bushes(fine, fine), list(0, 1, 2), api.ErrForm}, {usual(), nil, list(-1), api.ErrForm}, {usual(), bushes(fine), list(4, 4), api.ErrForm}, {usual(), bushes(fine), nil, api.ErrForm},
		{usual(), bushes(fine), list(4), api.ErrRange}, {usual(), bushes(fine), list(-2), api.ErrRange}, {usual(), bushes(fine), list(3), api.OK}, {usual(), bushes(fine), list(-1), api.OK}, {usual(), bushes(fine), list(low), api.ErrRange}, {usual(), bushes(fine), list(high), api.ErrRange}, {usual(), bushes(fine, fine, fine), list(0, 0, 4), api.ErrRange}, {usual(), bushes(fine, fine), list(4, 4), api.ErrRange}, {usual(), bushes(fine, fine), list(-2, -2), api.ErrRange},
		{usual(), bushes(fine, fine, fine), list(0, 3, 3), api.ErrState}, {seasonOf(1), bushes(fine), list(0), api.OK}, {seasonOf(1), bushes(fine), list(1), api.ErrRange}, {seasonOf(120), bushes(fine), list(119), api.OK}, {seasonOf(120), bushes(fine), list(120), api.ErrRange},
	} {
		sameWorth(t, c.o, c.l, c.days, 0, c.want)
	}
	samePlan(t, api.Outlook{}, times(7, bad), 0, api.ErrArg)
	samePlan(t, api.Outlook{}, nil, 0, api.ErrArg)
	samePlan(t, usual(), times(7, fine), 0, api.ErrLong)
	samePlan(t, usual(), times(7, bad), 0, api.ErrLong)
	samePlan(t, usual(), times(100000, fine), 0, api.ErrLong)
	samePlan(t, usual(), bushes(fine, bad), 0, api.ErrArg)
}

// TestP9_5Definitions looks at any plans, possible and not.
func TestP9_5Definitions(t *testing.T) {
	d := dice()
	seen := map[bool]int{}
	for range 10000 {
		o := anyOutlook(d, pick(d, 1, 12))
		l := anyBushes(d, pick(d, 0, 6), pick(d, 1, 6))
		days := picks(d, len(l), -1, len(o.Scenarios[0].Runs)-1)
		gain, ok := worthOf(o, l, days)
		want := api.ErrState
		if ok {
			want = api.OK
		}
		sameWorth(t, o, l, days, gain, want)
		seen[ok && gain > 0]++
	}
	if seen[true] < 1000 || seen[false] < 1000 {
		t.Error("too few:", seen)
	}
}

func TestP9_6Plan(t *testing.T) {
	one := bush(1, 1, 100)
	for _, c := range []struct {
		what string
		o    api.Outlook
		l    []api.SeasonBush
		want int
		days []int // nil if several plans are as good
	}{
		{"no bush", usual(), nil, 0, list()}, {"the example", usual(), usualBushes(), 58000, nil}, {"one bush", usual(), bushes(bush(10, 1, 100)), 31000, list(1)},
		{"waits", runs(0, 1, 1, 9, 1), bushes(one), 900, list(2)}, {"waits for both", runs(0, 1, 1, 9, 8), bushes(one, bush(2, 1, 100)), 2600, list(3, 2)}, {"begins at once", runs(0, 9, 1, 1), bushes(one), 900, list(0)}, {"waits between", runs(0, 9, 1, 1, 9), bushes(one, bush(2, 2, 100)), 2700, list(0, 2)},
		{"leaves one out", runs(0, 9, 0), bushes(one, bush(2, 1, 100)), 1800, nil}, {"leaves one out that takes long", runs(0, 3, 9, 0, 0), bushes(bush(1, 3, 100), bush(1, 2, 100)), 900, nil}, {"leaves the first one out", runs(5, 0, 9), bushes(bush(1, 2, 100), bush(2, 2, 100)), 1800, list(-1, 0)},
		{"takes the later one first", runs(0, 9, 5), bushes(one, bush(2, 1, 100)), 2300, list(1, 0)}, {"takes the better one first", runs(0, 9, 5), bushes(bush(2, 1, 100), one), 2300, list(0, 1)}, {"takes the last one first", runs(0, 9, 5, 2), bushes(one, bush(2, 1, 100), bush(3, 1, 100)), 3900, list(2, 1, 0)}, {"the percents decide", runs(0, 9, 5), bushes(bush(2, 1, 40), bush(1, 1, 90)), 90*9 + 80*5, list(1, 0)},
		{"the shorter one first", runs(0, 9, 1, 1, 9), bushes(bush(1, 3, 100), one), 1800, list(1, 0)}, {"none is worth it", runs(9, 0, 0), bushes(one, one), 0, nil}, {"one day", runs(9), bushes(one), 0, nil}, {"no taps", usual(), bushes(bush(0, 1, 100)), 0, nil}, {"no percent", usual(), bushes(bush(10, 1, 0)), 0, nil},
		{"up to the last day", runs(0, 0, 0, 9), bushes(bush(1, 3, 100)), 900, list(0)}, {"past the last day", runs(9, 9, 9, 9), bushes(bush(1, 4, 100)), 0, nil}, {"longer than the season", runs(9, 9, 9, 9), bushes(bush(1, 5, 100), bush(1, 120, 100), one), 900, nil}, {"as many as there are", runs(0, 1, 2, 4, 8, 16, 32), times(6, one), 6300, nil}, {"more than can be", runs(0, 1, 2, 4), times(6, one), 700, nil},
	} {
		days := samePlan(t, c.o, c.l, c.want, api.OK)
		if c.days != nil && !slices.Equal(days, c.days) {
			t.Error(c.what, days, c.days)
		}
		if most := planOf(c.o, c.l); len(c.l) < 5 && most != c.want {
			t.Error("by the definitions:", c.what, most)
		}
	}
}

// TestP9_6AllPlans compares with all plans.
func TestP9_6AllPlans(t *testing.T) {
	d := dice()
	seen := map[string]int{}
	try := func(days, n, work int) {
		o, l := anyOutlook(d, days), anyBushes(d, n, work)
		plan := samePlan(t, o, l, planOf(o, l), api.OK)
		if slices.Contains(plan, -1) {
			seen["leaves out"]++
		}
		if n > 1 && plan[n-1] >= 0 && plan[n-1] < plan[0] {
			seen["later one first"]++
		}
		if n > 0 && !slices.Contains(plan, -1) && slices.Min(plan) > 0 {
			seen["waits"]++
		}
	}
	for range 6000 {
		try(pick(d, 1, 7), pick(d, 0, 3), pick(d, 1, 4))
	}
	for range 300 {
		try(pick(d, 1, 5), 4, 2)
	}
	for range 40 {
		try(3, 6, 2)
	}
	for _, what := range []string{"leaves out", "later one first", "waits"} {
		if seen[what] < 100 {
			t.Error("too few:", what, seen[what])
		}
	}
}

// eachOrder calls for each order of some of the numbers below n.
func eachOrder(n int, begin []int, call func(order []int)) {
	call(begin)
	for i := range n {
		if !slices.Contains(begin, i) {
			eachOrder(n, append(slices.Clone(begin), i), call)
		}
	}
}

// inOrder returns the most that bushes gain if the crew taps them in an order: for each bush, by the first day on which it can begin with it.
func inOrder(o api.Outlook, l []api.SeasonBush, order []int, values map[[2]int]int) int {
	days := len(o.Scenarios[0].Runs)
	later := make([]int, days+api.MaxSeasonDays+1)
	for _, bush := range slices.Backward(order) {
		now := make([]int, len(later))
		for day := days - 1; day >= 0; day-- {
			now[day] = max(now[day+1], values[[2]int{bush, day}]+later[day+l[bush].Work])
		}
		later = now
	}
	return later[0]
}

// TestP9_6Orders compares long seasons, with as many bushes as there can be, with all orders of them.
func TestP9_6Orders(t *testing.T) {
	d := dice()
	for range 12 {
		o, l := anyOutlook(d, pick(d, 20, 120)), anyBushes(d, 6, pick(d, 1, 30))
		values := map[[2]int]int{}
		for i, b := range l {
			for day := range o.Scenarios[0].Runs {
				values[[2]int{i, day}], _ = worthOf(o, bushes(b), list(day))
			}
		}
		most := 0
		eachOrder(6, nil, func(order []int) { most = max(most, inOrder(o, l, order, values)) })
		samePlan(t, o, l, most, api.OK)
	}
}

// TestP9_6Great has the greatest gain that there can be but for the days on which the crew taps.
func TestP9_6Great(t *testing.T) {
	o := outlook(120, times(20, scenario(100, times(120, 1000000)...))...)
	want := 0
	for day := range 6 {
		want += 20 * 100 * 10000 * 100 * (119 - day) * 1000000
	}
	samePlan(t, o, times(6, bush(10000, 1, 100)), want, api.OK)
	for range 50 {
		samePlan(t, o, bushes(bush(10000, 1, 100), bush(9999, 2, 99), bush(9998, 3, 98), bush(9997, 4, 97), bush(9996, 5, 96), bush(1, 120, 1)), worthIn(o, 10000*100, 1, 9999*99, 3, 9998*98, 6, 9997*97, 10, 9996*96, 15), api.OK)
	}
}

// worthIn returns what bushes gain that come as Taps * Percent and the day from which they gain.
func worthIn(o api.Outlook, n ...int) int {
	gain := 0
	for i := 0; i+1 < len(n); i += 2 {
		for s, x := range o.Scenarios {
			gain += x.Weight * n[i] * gainOf(o, s, n[i+1])
		}
	}
	return gain
}
