package pan_test

import (
	"fmt"
	"testing"

	"spile/api"
	"spile/pan"
)

// panCases are pans at the bounds of each field, and one step beyond them.
func panCases() []struct {
	change func(p *api.Pan)
	want   api.Errno
} {
	return []struct {
		change func(p *api.Pan)
		want   api.Errno
	}{
		{func(p *api.Pan) {}, api.OK},
		{func(p *api.Pan) { p.Dry = 0 }, api.OK}, {func(p *api.Pan) { p.Dry = -1 }, api.ErrArg}, {func(p *api.Pan) { p.Dry = 1000 }, api.OK}, {func(p *api.Pan) { p.Dry = 1001 }, api.ErrArg}, {func(p *api.Pan) { p.Dry = low }, api.ErrArg}, {func(p *api.Pan) { p.Dry = high }, api.ErrArg},
		{func(p *api.Pan) { p.Low = 800 }, api.OK}, {func(p *api.Pan) { p.Low = 799 }, api.ErrArg}, {func(p *api.Pan) { p.Low = 1999 }, api.OK}, {func(p *api.Pan) { p.Low = 2000 }, api.ErrArg}, {func(p *api.Pan) { p.Low, p.Dry = 0, 0 }, api.OK}, {func(p *api.Pan) { p.Low, p.Dry = -1, -1 }, api.ErrArg}, {func(p *api.Pan) { p.Low, p.Dry = -1, 0 }, api.ErrArg}, {func(p *api.Pan) { p.Low = low }, api.ErrArg}, {func(p *api.Pan) { p.Low = high }, api.ErrArg},
		{func(p *api.Pan) { p.High = 1001 }, api.OK}, {func(p *api.Pan) { p.High = 1000 }, api.ErrArg}, {func(p *api.Pan) { p.High = 999 }, api.ErrArg}, {func(p *api.Pan) { p.High = 2900 }, api.OK}, {func(p *api.Pan) { p.High = 2901 }, api.ErrArg}, {func(p *api.Pan) { p.High = low }, api.ErrArg}, {func(p *api.Pan) { p.High = high }, api.ErrArg}, {func(p *api.Pan) { p.Low, p.High, p.Dry = high-1, high, 0 }, api.ErrArg},
		{func(p *api.Pan) { p.Rim = 2100 }, api.OK}, {func(p *api.Pan) { p.Rim = 2099 }, api.ErrArg}, {func(p *api.Pan) { p.Rim = 1000000 }, api.OK}, {func(p *api.Pan) { p.Rim = 1000001 }, api.ErrArg}, {func(p *api.Pan) { p.Rim = low }, api.ErrArg}, {func(p *api.Pan) { p.Rim = high }, api.ErrArg}, {func(p *api.Pan) { p.Rim = -1 }, api.ErrArg}, {func(p *api.Pan) { p.Rim, p.High = 1000000, 999900 }, api.OK}, {func(p *api.Pan) { p.Rim, p.High = 1000000, 999901 }, api.ErrArg},
		{func(p *api.Pan) { p.Least = 0 }, api.OK}, {func(p *api.Pan) { p.Least = -1 }, api.ErrArg}, {func(p *api.Pan) { p.Least = 100 }, api.OK}, {func(p *api.Pan) { p.Least = 101 }, api.ErrArg}, {func(p *api.Pan) { p.Least = low }, api.ErrArg}, {func(p *api.Pan) { p.Least = high }, api.ErrArg},
		{func(p *api.Pan) { p.Most = 50 }, api.OK}, {func(p *api.Pan) { p.Most = 49 }, api.ErrArg}, {func(p *api.Pan) { p.Most = 1000 }, api.OK}, {func(p *api.Pan) { p.Most = 1001 }, api.ErrArg}, {func(p *api.Pan) { p.Most, p.Least = 0, 0 }, api.OK}, {func(p *api.Pan) { p.Most, p.Least = -1, -1 }, api.ErrArg}, {func(p *api.Pan) { p.Most, p.Rim = 100000, 1000000 }, api.OK}, {func(p *api.Pan) { p.Most, p.Rim = 100001, 1000000 }, api.ErrArg}, {func(p *api.Pan) { p.Most = low }, api.ErrArg}, {func(p *api.Pan) { p.Most = high }, api.ErrArg},
		{func(p *api.Pan) { p.Cool = 0 }, api.OK}, {func(p *api.Pan) { p.Cool = -1 }, api.ErrArg}, {func(p *api.Pan) { p.Cool = 60 }, api.OK}, {func(p *api.Pan) { p.Cool = 61 }, api.ErrArg}, {func(p *api.Pan) { p.Cool = low }, api.ErrArg}, {func(p *api.Pan) { p.Cool = high }, api.ErrArg},
		{func(p *api.Pan) { p.Hot = 30 }, api.OK}, {func(p *api.Pan) { p.Hot = 29 }, api.ErrArg}, {func(p *api.Pan) { p.Hot = 100000 }, api.OK}, {func(p *api.Pan) { p.Hot = 100001 }, api.ErrArg}, {func(p *api.Pan) { p.Hot, p.Cool = 0, 0 }, api.OK}, {func(p *api.Pan) { p.Hot, p.Cool = -1, -1 }, api.ErrArg}, {func(p *api.Pan) { p.Hot = low }, api.ErrArg}, {func(p *api.Pan) { p.Hot = high }, api.ErrArg},
		{func(p *api.Pan) { *p = api.Pan{} }, api.ErrArg}, {func(p *api.Pan) { *p = api.Pan{High: 1, Rim: 1} }, api.OK}, {func(p *api.Pan) { *p = api.Pan{High: 1} }, api.ErrArg}, {func(p *api.Pan) {
			*p = api.Pan{Low: 999999, High: 1000000, Rim: 1000000, Dry: 999999, Cool: 100000, Hot: 100000}
		}, api.OK},
	}
}

func TestP7_1Pans(t *testing.T) {
	for i, c := range panCases() {
		p := panWith(c.change)
		sameErr(t, fmt.Sprint("Check of the pan ", i, p), pan.Check(boilOf(pans(p), 1)), c.want)
		sameErr(t, fmt.Sprint("Check of the last pan ", i, p), pan.Check(boilOf(pans(usual(), usual(), p), 1)), c.want)
	}
}

// TestP7_1Numbers has the numbers of pans, minutes and acts at their limits, and one step beyond them.
func TestP7_1Numbers(t *testing.T) {
	for _, c := range []struct {
		pans, minutes, acts int
		want                api.Errno
	}{
		{1, 1, 0, api.OK}, {0, 1, 0, api.ErrArg}, {6, 1, 0, api.OK}, {7, 1, 0, api.ErrArg}, {100000, 1, 0, api.ErrArg},
		{1, 0, 0, api.OK}, {1, -1, 0, api.ErrArg}, {1, 300, 0, api.OK}, {1, 301, 0, api.ErrArg}, {1, low, 0, api.ErrArg}, {1, high, 0, api.ErrArg},
		{1, 1, 60, api.OK}, {1, 1, 61, api.ErrArg}, {6, 300, 60, api.OK}, {1, 0, 1, api.ErrArg}, {1, -1, 1, api.ErrArg}, {0, 0, 0, api.ErrArg}, {1, 1, 100000, api.ErrArg},
	} {
		sameErr(t, fmt.Sprint("Check ", c), pan.Check(boilOf(times(c.pans, usual()), c.minutes, times(c.acts, fire(0, 1))...)), c.want)
	}
}

// TestP7_1Acts has each kind of act, and some that are none, with the numbers at their bounds and one step beyond them.
func TestP7_1Acts(t *testing.T) {
	act := func(minute int, kind api.PanActKind, pan, amount int) api.PanAct {
		return api.PanAct{Minute: minute, Kind: kind, Pan: pan, Amount: amount}
	}
	for _, c := range []struct {
		a    api.PanAct
		want api.Errno
	}{
		{act(0, 1, 0, 0), api.OK}, {act(9, 1, 0, 100), api.OK}, {act(0, 1, 0, -1), api.ErrArg}, {act(0, 1, 0, 101), api.ErrArg}, {act(0, 1, 1, 50), api.ErrArg}, {act(0, 1, -1, 50), api.ErrArg}, {act(0, 1, 2, 50), api.ErrArg}, {act(0, 1, 0, high), api.ErrArg}, {act(0, 1, 0, low), api.ErrArg},
		{act(0, 2, 0, 0), api.OK}, {act(9, 2, 1, 1000000), api.OK}, {act(0, 2, 2, 0), api.ErrArg}, {act(0, 2, 3, 0), api.ErrArg}, {act(0, 2, -1, 0), api.ErrArg}, {act(0, 2, 0, -1), api.ErrArg}, {act(0, 2, 0, 1000001), api.ErrArg}, {act(0, 2, high, 0), api.ErrArg}, {act(0, 2, low, 0), api.ErrArg},
		{act(0, 3, 0, 0), api.OK}, {act(9, 3, 2, 1000000), api.OK}, {act(0, 3, 3, 0), api.ErrArg}, {act(0, 3, -1, 0), api.ErrArg}, {act(0, 3, 2, -1), api.ErrArg}, {act(0, 3, 2, 1000001), api.ErrArg}, {act(0, 3, 0, high), api.ErrArg}, {act(0, 3, 0, low), api.ErrArg},
		{act(0, 4, 0, 0), api.OK}, {act(9, 4, 2, 0), api.OK}, {act(0, 4, 3, 0), api.ErrArg}, {act(0, 4, -1, 0), api.ErrArg}, {act(0, 4, 0, 1), api.ErrArg}, {act(0, 4, 0, -1), api.ErrArg},
		{act(0, 5, 0, 0), api.OK}, {act(9, 5, 2, 0), api.OK}, {act(0, 5, 3, 0), api.ErrArg}, {act(0, 5, -1, 0), api.ErrArg}, {act(0, 5, 0, 1), api.ErrArg}, {act(0, 5, 0, -1), api.ErrArg},
		{act(0, 0, 0, 0), api.ErrArg}, {act(0, 6, 0, 0), api.ErrArg}, {act(0, -1, 0, 0), api.ErrArg}, {act(0, low, 0, 0), api.ErrArg}, {act(0, high, 0, 0), api.ErrArg},
		{act(-1, 1, 0, 0), api.ErrArg}, {act(10, 1, 0, 0), api.ErrArg}, {act(-1, 5, 0, 0), api.ErrArg}, {act(10, 5, 0, 0), api.ErrArg}, {act(low, 3, 0, 0), api.ErrArg}, {act(high, 3, 0, 0), api.ErrArg},
	} {
		three := times(3, usual())
		sameErr(t, fmt.Sprint("Check ", c), pan.Check(boilOf(three, 10, c.a)), c.want)
		if c.a.Minute == 0 {
			sameErr(t, fmt.Sprint("Check of a later act ", c), pan.Check(boilOf(three, 10, fire(0, 1), fire(0, 2), c.a, fire(9, 1))), c.want)
		}
	}
	one := boilOf(pans(usual()), 10, move(0, 0, 0))
	sameErr(t, "a move from the only pan", pan.Check(one), api.ErrArg)
	two := boilOf(times(2, usual()), 10, move(0, 0, 0))
	sameErr(t, "a move into the last pan", pan.Check(two), api.OK)
}

// TestP7_1Order has acts in the same minute, and some in a minute before that of the act before.
func TestP7_1Order(t *testing.T) {
	for _, c := range []struct {
		minutes []int
		want    api.Errno
	}{
		{list(0, 0, 0), api.OK}, {list(0, 1, 2), api.OK}, {list(0, 9, 9), api.OK}, {list(9, 9, 9), api.OK}, {list(5, 5, 4), api.ErrArg}, {list(1, 0, 1), api.ErrArg}, {list(0, 9, 8), api.ErrArg}, {list(9, 0, 0), api.ErrArg}, {list(3, 5, 4), api.ErrArg},
	} {
		for _, kind := range []func(minute int) api.PanAct{
			func(minute int) api.PanAct { return fire(minute, 1) }, func(minute int) api.PanAct { return draw(minute, 0, 1) }, func(minute int) api.PanAct { return shut(minute, 0) },
		} {
			b := boil(10)
			for _, minute := range c.minutes {
				b.Acts = append(b.Acts, kind(minute))
			}
			sameErr(t, fmt.Sprint("Check ", c, b.Acts), pan.Check(b), c.want)
		}
	}
}

// withBoil asks all functions with a boil, and with a start where there is one, and returns their errors.
func withBoil(b api.Boil, start []api.Range) map[string]api.Errno {
	told := map[string]api.Errno{}
	_, _, told["Levels"] = pan.Levels(b, start)
	_, _, told["Trace"] = pan.Trace(b, start, -1, course(low, low, low))
	_, _, _, told["Dry"] = pan.Dry(b, start)
	_, told["Hottest"] = pan.Hottest(b, start)
	return told
}

// TestP7_1First shows that the error of the boil comes first, and those of the start then.
func TestP7_1First(t *testing.T) {
	spoiled := boil(10, fire(0, 100), draw(0, 0, 3000), fire(1, 100))
	bad := boil(10, fire(0, 101), draw(0, 0, 3000), fire(1, 100))
	two := boilOf(pans(usual(), api.Pan{High: 1, Rim: 2}), 10, fire(0, 100), draw(0, 0, 3000))
	for i, c := range []struct {
		b     api.Boil
		start []api.Range
		want  api.Errno
	}{
		{bad, set(one(1000)), api.ErrArg}, {bad, nil, api.ErrArg}, {bad, set(r(1, 0)), api.ErrArg}, {api.Boil{}, nil, api.ErrArg}, {boil(301), nil, api.ErrArg},
		{spoiled, nil, api.ErrForm}, {spoiled, set(one(1000), one(1000)), api.ErrForm}, {spoiled, set(r(1, 0), r(1, 0)), api.ErrForm}, {spoiled, set(), api.ErrForm}, {two, set(r(1, 0)), api.ErrForm}, {two, times(3, one(0)), api.ErrForm},
		{spoiled, set(r(1, 0)), api.ErrArg}, {spoiled, set(r(-1, 0)), api.ErrArg}, {spoiled, set(r(0, 3001)), api.ErrArg}, {spoiled, set(r(3001, 3000)), api.ErrArg}, {spoiled, set(r(low, high)), api.ErrArg}, {spoiled, set(r(high, low)), api.ErrArg},
		{two, set(one(0), one(3)), api.ErrArg}, {two, set(one(3001), one(2)), api.ErrArg}, {two, set(one(0), r(2, 1)), api.ErrArg}, {two, set(one(0), one(-1)), api.ErrArg},
	} {
		for name, e := range withBoil(c.b, c.start) {
			sameErr(t, fmt.Sprint(i, name), e, c.want)
		}
		_, at, _ := pan.Levels(c.b, c.start)
		_, atTrace, _ := pan.Trace(c.b, c.start, -1, course(low, low, low))
		if at != 0 || atTrace != 0 {
			t.Error(i, "at", at, atTrace)
		}
	}
	for i, start := range [][]api.Range{set(one(0)), set(one(3000)), set(r(0, 3000))} {
		sameErr(t, fmt.Sprint("Levels ", i), withBoil(boil(1), start)["Levels"], api.OK)
	}
	_, e := pan.Wood(bad, -1)
	sameErr(t, "Wood", e, api.ErrArg)
	_, _, _, _, e = pan.Follow(bad, nil, s(-1, 0), nil)
	sameErr(t, "Follow", e, api.ErrArg)
}
