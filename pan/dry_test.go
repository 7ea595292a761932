package pan_test

import (
	"fmt"
	"math/rand/v2"
	"slices"
	"testing"

	"spile/api"
	"spile/pan"
)

// TestP7_4Dry has pans that run dry in the first minute, in a later one, only the second one, and two in the same minute.
func TestP7_4Dry(t *testing.T) {
	two := times(2, usual())
	for _, c := range []struct {
		what        string
		b           api.Boil
		start       []api.Range
		pan, minute int
	}{
		{"the chapter's pan", boil(300, fire(0, 100)), set(one(1000)), 0, 15},
		{"as few minutes as it takes", boil(16, fire(0, 100)), set(one(1000)), 0, 15},
		{"one percent too hot", boil(300, fire(0, 84)), set(one(1000)), 0, 150},
		{"the first minute", boil(300, fire(0, 100)), set(r(809, 3000)), 0, 0},
		{"the first minute, without fire", boil(300), set(one(749)), 0, 0},
		{"the first minute, by an act", boil(300, draw(0, 0, 251)), set(one(1000)), 0, 0},
		{"the first minute, far below", boil(1, fire(0, 100)), set(one(0)), 0, 0},
		{"by an act later", boil(300, draw(299, 0, 300)), set(one(1000)), 0, 299},
		{"by a shut float", boil(300, shut(0, 0)), set(r(799, 3000)), 0, 0},
		{"by a shut float later", boil(300, fire(0, 83), shut(7, 0)), set(one(1000)), 0, 10},
		{"only the second one", boilOf(two, 300, fire(0, 100)), set(one(3000), one(2000)), 1, 32},
		{"the second one first", boilOf(two, 300, fire(0, 100)), set(one(1010), one(1000)), 1, 15},
		{"both in the same minute", boilOf(two, 300, fire(0, 100)), set(one(1000), one(1000)), 0, 15},
		{"both in the first minute", boilOf(two, 300, fire(0, 100)), set(one(700), one(0)), 0, 0},
		{"by what is moved", boilOf(two, 9, move(5, 0, 1000)), set(one(1700), one(2000)), 0, 5},
		{"by what is moved on", boilOf(times(3, usual()), 9, move(5, 0, 300), move(5, 1, 900)), set(one(1700), one(1300), one(1700)), 1, 5},
		{"the third one", boilOf(times(3, usual()), 9, shut(3, 2), draw(4, 2, 1300)), set(one(1700), one(1700), one(2099)), 2, 4},
	} {
		sameDry(t, c.what, c.b, c.start, c.pan, c.minute)
	}
}

// TestP7_4None has pans that never run dry, some of them just not.
func TestP7_4None(t *testing.T) {
	bottomless := panWith(func(p *api.Pan) { p.Dry = 0 })
	for _, c := range []struct {
		what  string
		b     api.Boil
		start []api.Range
	}{
		{"no minute", boil(0), set(one(0))},
		{"no fire", boil(300), set(one(1000))},
		{"a minute less", boil(15, fire(0, 100)), set(one(1000))},
		{"one percent less", boil(300, fire(0, 83)), set(one(1000))},
		{"just Dry", boil(1, fire(0, 100)), set(one(810))},
		{"just Dry, by an act", boil(1, draw(0, 0, 250)), set(one(1000))},
		{"Dry at the start", boil(1), set(one(750))},
		{"shut", boil(300, shut(0, 0)), set(r(800, 3000))},
		{"no bound", boilOf(pans(bottomless), 300, fire(0, 100), shut(0, 0)), set(r(0, 3000))},
	} {
		noDry(t, c.what, c.b, c.start, api.ErrNone)
	}
}

// TestP7_4Errors has those of Levels first, even if a pan has run dry before.
func TestP7_4Errors(t *testing.T) {
	dry := boilOf(times(2, usual()), 9, fire(0, 100), draw(8, 0, 2000))
	noDry(t, "dry, and then short", dry, set(one(0), one(0)), api.ErrShort)
	dry.Acts = []api.PanAct{fire(0, 0), move(8, 0, 100)}
	noDry(t, "dry, and then too full", dry, set(one(700), one(3000)), api.ErrSpill)
	noDry(t, "no ranges", dry, nil, api.ErrForm)
	noDry(t, "a bad range", dry, set(one(0), r(1, 0)), api.ErrArg)
	dry.Minutes = 301
	noDry(t, "too many minutes", dry, nil, api.ErrArg)
}

// TestP7_4Definitions compares with what can truly be in the pans.
func TestP7_4Definitions(t *testing.T) {
	d := dice()
	seen := map[string]int{}
	for range 6000 {
		b := anyBoil(d)
		start := anyStart(d, b.Pans)
		all := newTruths(b, start, 0)
		number, minute := all.dry()
		switch {
		case all.e != api.OK:
			noDry(t, fmt.Sprint(b, start), b, start, all.e)
			seen["error"]++
		case number < 0:
			noDry(t, fmt.Sprint(b, start), b, start, api.ErrNone)
			seen["never"]++
		default:
			sameDry(t, fmt.Sprint(b, start), b, start, number, minute)
			seen[fmt.Sprint("pan ", number)]++
			seen[fmt.Sprint("minute ", minute)]++
		}
	}
	for _, what := range []string{"error", "never", "pan 0", "pan 1", "pan 2", "minute 0", "minute 1", "minute 2", "minute 3"} {
		if seen[what] < 50 {
			t.Error("too few:", what, seen)
		}
	}
}

// TestP7_4LeastFeed has pans in which less leads to more, as their floats let in much below Low.
func TestP7_4LeastFeed(t *testing.T) {
	p := api.Pan{Low: 100, High: 200, Least: 60, Most: 60, Cool: 10, Hot: 70, Dry: 31, Rim: 300}
	sameDry(t, "from Low", boilOf(pans(p), 9, fire(0, 100)), set(r(60, 100)), 0, 0)
	sameDry(t, "from Low, later", boilOf(pans(p), 9, fire(0, 10), fire(5, 100)), set(r(100, 110)), 0, 5)
	d := dice()
	for range 2000 {
		q := anyPan(d)
		q.Least = q.Most
		q.Dry = q.Low
		b := boilOf(pans(q), 8, fire(0, pick(d, 1, 100)), fire(3, pick(d, 1, 100)))
		start := anyStart(d, b.Pans)
		if number, minute := newTruths(b, start, 0).dry(); number >= 0 {
			sameDry(t, fmt.Sprint(b, start), b, start, number, minute)
		}
	}
}

// sameHottest asks Hottest.
func sameHottest(t *testing.T, what string, b api.Boil, start []api.Range, want int, wantErr api.Errno) {
	t.Helper()
	fire, e := pan.Hottest(b, start)
	same(t, fmt.Sprint("Hottest: ", what), fire, e, want, wantErr)
}

// TestP7_5Hottest has boils in which each fire is allowed, none is, and the greatest one lies in between.
func TestP7_5Hottest(t *testing.T) {
	two := times(2, usual())
	full := panWith(func(p *api.Pan) { p.Cool = 60 })
	bottomless := panWith(func(p *api.Pan) { p.Dry = 0 })
	for _, c := range []struct {
		what  string
		b     api.Boil
		start []api.Range
		want  int
		e     api.Errno
	}{
		{"the chapter's pan", boil(300), set(one(1000)), 83, api.OK},
		{"fewer minutes", boil(150), set(one(1000)), 85, api.OK},
		{"a minute more", boil(151), set(one(1000)), 83, api.OK},
		{"fifteen minutes", boil(15), set(one(1000)), 100, api.OK},
		{"sixteen", boil(16), set(one(1000)), 98, api.OK},
		{"no minute", boil(0), set(one(0)), 100, api.OK},
		{"one minute", boil(1), set(one(810)), 100, api.OK},
		{"one minute with a gram less", boil(1), set(one(809)), 98, api.OK},
		{"only no fire", boil(1), set(one(750)), 0, api.OK},
		{"one percent", boil(1), set(one(751)), 1, api.OK},
		{"even without a fire too little", boil(1), set(one(749)), 0, api.ErrNone},
		{"shut", boil(300, shut(0, 0)), set(one(800)), 0, api.OK},
		{"shut, with something", boil(100, shut(0, 0)), set(one(900)), 1, api.OK},
		{"always too little to draw off", boil(1, draw(0, 0, 1001)), set(one(1000)), 0, api.ErrNone},
		{"too little to draw off by the fire", boilOf(pans(bottomless), 2, draw(1, 0, 1950)), set(one(2000)), 83, api.OK},
		{"too much for the next one", boilOf(two, 1, move(0, 0, 100)), set(one(1000), one(2901)), 0, api.ErrNone},
		{"too much for the next one, but for the fire", boilOf(two, 2, move(1, 0, 100)), set(one(2000), one(2902)), 100, api.OK},
		{"a fire that is great enough", boilOf(pans(usual(), full), 2, move(1, 0, 100)), set(one(2000), one(2960)), 100, api.OK},
		{"no fire is great enough", boilOf(pans(usual(), full), 2, move(1, 0, 100)), set(one(2000), one(2961)), 0, api.ErrNone},
		{"the least of all pans", boilOf(two, 300), set(one(3000), one(1000)), 83, api.OK},
	} {
		sameHottest(t, c.what, c.b, c.start, c.want, c.e)
	}
}

// TestP7_5NotBelow has a fire that is allowed although a lesser one is not.
func TestP7_5NotBelow(t *testing.T) {
	next := panWith(func(p *api.Pan) { p.Cool, p.Hot = 60, 60 })
	b := boilOf(pans(usual(), next), 2, move(1, 0, 100))
	start := set(one(2000), one(2936))
	sameHottest(t, "not below 60 percent", b, start, 100, api.OK)
	for _, c := range []struct {
		fire int
		want api.Errno
	}{{0, api.ErrSpill}, {59, api.ErrSpill}, {60, api.OK}, {100, api.OK}} {
		hot := b
		hot.Acts = append([]api.PanAct{fire(0, c.fire)}, b.Acts...)
		_, _, e := pan.Levels(hot, start)
		sameErr(t, fmt.Sprint(c), e, c.want)
	}
	// Below Low so much must come in that a fire leads to more than a lesser one does.
	odd := api.Pan{Low: 100, High: 200, Least: 100, Most: 100, Cool: 10, Hot: 10, Dry: 97, Rim: 300}
	sameHottest(t, "an open float", boilOf(pans(odd), 2), set(one(104)), 30, api.OK)
	b = boilOf(pans(odd), 2, shut(0, 0), open(1, 0))
	start = set(one(104))
	sameHottest(t, "a float that is shut first", b, start, 70, api.OK)
	noDry(t, "without fire", b, start, api.ErrNone)
	for _, c := range []struct {
		fire   int
		levels [][]api.Range
		dry    bool
	}{
		{30, [][]api.Range{set(one(101)), set(r(98, 198))}, false},
		{40, [][]api.Range{set(one(100)), set(r(96, 196))}, true},
		{50, [][]api.Range{set(one(99)), set(one(194))}, false},
		{70, [][]api.Range{set(one(97)), set(one(190))}, false},
	} {
		hot := b
		hot.Acts = append([]api.PanAct{fire(0, c.fire)}, b.Acts...)
		sameLevels(t, fmt.Sprint(c), hot, start, c.levels)
		if c.dry {
			sameDry(t, fmt.Sprint(c), hot, start, 0, 1)
		} else {
			noDry(t, fmt.Sprint(c), hot, start, api.ErrNone)
		}
	}
}

func TestP7_5Errors(t *testing.T) {
	for i, b := range []api.Boil{
		boil(1, fire(0, 0)), boil(1, fire(0, 100)), boil(300, shut(0, 0), fire(299, 1)), boil(1, draw(0, 0, 1001), fire(0, 0)), boil(1, fire(0, 0), draw(0, 0, 1001)),
	} {
		sameHottest(t, fmt.Sprint("a fire ", i), b, set(one(1000)), 0, api.ErrForm)
		sameHottest(t, fmt.Sprint("a fire, and a bad range ", i), b, set(r(1, 0)), 0, api.ErrArg)
		sameHottest(t, fmt.Sprint("a fire, and no range ", i), b, nil, 0, api.ErrForm)
	}
	sameHottest(t, "a bad boil", boil(301, fire(0, 0)), nil, 0, api.ErrArg)
	sameHottest(t, "a bad fire", boil(1, fire(0, 101)), set(one(1000)), 0, api.ErrArg)
	// The fire from the beginning is no act, so that there can be as many of them as ever.
	sameHottest(t, "60 acts", boil(300, times(60, shut(299, 0))...), set(one(1000)), 83, api.OK)
	sameHottest(t, "61 acts", boil(300, times(61, shut(299, 0))...), set(one(1000)), 0, api.ErrArg)
}

// TestP7_5Definitions tries all fires, by the definitions.
func TestP7_5Definitions(t *testing.T) {
	d := dice()
	seen := map[string]int{}
	for range 300 {
		b := anyBoil(d)
		b.Acts = slices.DeleteFunc(b.Acts, func(a api.PanAct) bool { return a.Kind == api.PanFire })
		for i := range b.Pans {
			b.Pans[i].Dry = min(b.Pans[i].Dry, 3)
		}
		start := anyStart(d, b.Pans)
		if d.IntN(2) == 0 {
			b, start = anyOdd(d)
		}
		want, wantErr, gaps := 0, api.ErrNone, 0
		for fire := 100; fire >= 0; fire-- {
			all := newTruths(b, start, fire)
			number, _ := all.dry()
			if all.e != api.OK || number >= 0 {
				gaps++
			} else if wantErr != api.OK {
				want, wantErr, gaps = fire, api.OK, 0
			}
		}
		sameHottest(t, fmt.Sprint(b, start), b, start, want, wantErr)
		switch {
		case wantErr != api.OK:
			seen["none"]++
		case want == 100:
			seen["all"]++
		case want == 0:
			seen["no fire"]++
		default:
			seen["between"]++
		}
		if wantErr == api.OK && gaps > 0 {
			seen["not below"]++
		}
	}
	for _, what := range []string{"none", "all", "between", "no fire", "not below"} {
		if seen[what] < 5 {
			t.Error("too few:", what, seen)
		}
	}
}

// anyOdd returns a boil of a pan that is fed much below Low.
func anyOdd(d *rand.Rand) (api.Boil, []api.Range) {
	p := anyPan(d)
	p.Most = 6
	p.Least, p.Rim = p.Most, p.High+p.Most
	p.Hot = pick(d, 4, 8)
	p.Cool = p.Hot
	p.Dry = max(0, p.Low-pick(d, 1, 4))
	return boilOf(pans(p), 2, shut(0, 0), open(1, 0)), set(one(min(p.Rim, p.Low+pick(d, 0, 4))))
}

// TestP7_5Safe shows that with the fire nothing runs dry, and with the next one something does, or is refused.
func TestP7_5Safe(t *testing.T) {
	d := dice()
	for range 500 {
		b := anyBoil(d)
		b.Acts = slices.DeleteFunc(b.Acts, func(a api.PanAct) bool { return a.Kind == api.PanFire })
		start := anyStart(d, b.Pans)
		best, e := pan.Hottest(b, start)
		if e != api.OK || b.Minutes == 0 {
			continue
		}
		at := func(percent int) api.Errno {
			hot := b
			hot.Acts = append([]api.PanAct{fire(0, percent)}, b.Acts...)
			_, _, _, e := pan.Dry(hot, start)
			return e
		}
		if at(best) != api.ErrNone {
			t.Fatal("not safe:", b, start, best)
		}
		for more := best + 1; more <= 100; more++ {
			if at(more) == api.ErrNone {
				t.Fatal("not the greatest:", b, start, best, more)
			}
		}
	}
}

// sameSteady asks Steady.
func sameSteady(t *testing.T, what string, p api.Pan, fire int, start, want api.Range, wantErr api.Errno) {
	t.Helper()
	steady, e := pan.Steady(p, fire, start)
	same(t, fmt.Sprint("Steady: ", what, p, fire, start), steady, e, want, wantErr)
}

// TestP7_6Steady has the start alone, ranges that grow step by step, and what would reach below Dry or starts there.
func TestP7_6Steady(t *testing.T) {
	none := api.Range{}
	for _, c := range []struct {
		fire  int
		start api.Range
		want  api.Range
		e     api.Errno
	}{
		{80, one(1000), r(952, 2075), api.OK},
		{80, one(2075), r(952, 2075), api.OK},
		{80, one(3000), r(952, 3000), api.OK},
		{80, r(940, 2076), r(940, 2076), api.OK},
		{80, one(900), r(900, 2075), api.OK},
		{80, one(800), r(800, 2075), api.OK},
		{80, one(799), none, api.ErrState},
		{80, r(0, 3000), none, api.ErrState},
		{83, one(1000), r(950, 2075), api.OK},
		{84, one(1000), none, api.ErrState},
		{100, one(3000), none, api.ErrState},
		{0, one(1000), r(1000, 2099), api.OK},
		{0, one(999), r(999, 2099), api.OK},
		{0, one(2000), one(2000), api.OK},
		{0, one(2500), one(2500), api.OK},
		{0, r(2000, 2001), r(2000, 2001), api.OK},
		{0, r(1999, 2001), r(1999, 2099), api.OK},
		{0, r(1999, 2200), r(1999, 2200), api.OK},
		{0, r(800, 3000), r(800, 3000), api.OK},
		{0, one(799), none, api.ErrState},
		{1, one(3000), r(999, 3000), api.OK},
		{1, one(2000), r(999, 2099), api.OK},
	} {
		sameSteady(t, "usual", usual(), c.fire, c.start, c.want, c.e)
	}
	// Step by step, a gram each minute, up to a million of them.
	deep := api.Pan{Low: 1, High: 999999, Least: 1, Most: 1, Cool: 0, Hot: 1, Rim: 1000000}
	sameSteady(t, "down", deep, 100, one(1000000), r(0, 1000000), api.OK)
	sameSteady(t, "up", deep, 100, one(0), r(0, 999999), api.OK)
	deep = api.Pan{Low: 999999, High: 1000000, Hot: 1, Rim: 1000000}
	sameSteady(t, "down to nothing", deep, 1, one(1000000), r(0, 1000000), api.OK)
	deep.Dry = 1
	sameSteady(t, "down to nothing, but for Dry", deep, 1, one(1000000), none, api.ErrState)
	sameSteady(t, "no fire", deep, 0, one(1000000), one(1000000), api.OK)
}

func TestP7_6Errors(t *testing.T) {
	none := api.Range{}
	bad := panWith(func(p *api.Pan) { p.Rim = 2099 })
	for _, c := range []struct {
		p     api.Pan
		fire  int
		start api.Range
		want  api.Errno
	}{
		{bad, 80, one(1000), api.ErrArg}, {bad, -1, r(1, 0), api.ErrArg}, {bad, 101, one(0), api.ErrArg},
		{usual(), -1, one(1000), api.ErrRange}, {usual(), 101, one(1000), api.ErrRange}, {usual(), low, r(1, 0), api.ErrRange}, {usual(), high, one(3001), api.ErrRange}, {usual(), 101, one(0), api.ErrRange},
		{usual(), 80, r(1000, 999), api.ErrArg}, {usual(), 80, r(-1, 1000), api.ErrArg}, {usual(), 80, r(1000, 3001), api.ErrArg}, {usual(), 80, r(low, high), api.ErrArg}, {usual(), 100, r(1, 0), api.ErrArg},
		{usual(), 80, r(799, 1000), api.ErrState}, {usual(), 0, r(0, 1000), api.ErrState},
	} {
		sameSteady(t, "errors", c.p, c.fire, c.start, none, c.want)
	}
	for i, c := range panCases() {
		p := panWith(c.change)
		_, e := pan.Steady(p, 101, one(0))
		want := api.ErrRange
		if c.want != api.OK {
			want = c.want
		}
		sameErr(t, fmt.Sprint("Steady of the pan ", i, p), e, want)
	}
	for _, fire := range list(0, 100) {
		_, e := pan.Steady(usual(), fire, r(2000, 3000))
		sameErr(t, fmt.Sprint("Steady with ", fire), e, map[int]api.Errno{0: api.OK, 100: api.ErrState}[fire])
	}
}

// steady returns the least range by the definitions: what can be in the pan is added until there is nothing more.
func steady(p api.Pan, fire int, start api.Range) api.Range {
	for {
		grown := start
		for mass := start.Low; mass <= start.High; mass++ {
			inLeast, inMost := letsIn(p, false, mass)
			_, least := boilsOff(p, fire, mass+inLeast)
			most, _ := boilsOff(p, fire, mass+inMost)
			grown = r(min(grown.Low, mass+inLeast-least), max(grown.High, mass+inMost-most))
		}
		if grown == start {
			return start
		}
		start = grown
	}
}

// TestP7_6Definitions compares with the least range, for small pans.
func TestP7_6Definitions(t *testing.T) {
	d := dice()
	seen := map[string]int{}
	for range 20000 {
		p := anyPan(d)
		p.Dry = min(p.Dry, 2)
		fire, start := pick(d, 0, 100), anyStart(d, pans(p))[0]
		want, wantErr := steady(p, fire, start), api.OK
		switch {
		case want.Low < p.Dry:
			want, wantErr = api.Range{}, api.ErrState
		case want == start:
			seen["the start"]++
		case want.Low < start.Low && want.High > start.High:
			seen["both"]++
		case want.Low < start.Low:
			seen["down"]++
		default:
			seen["up"]++
		}
		sameSteady(t, "", p, fire, start, want, wantErr)
		seen[fmt.Sprint(wantErr)]++
	}
	for _, what := range []string{"0", "9", "the start", "both", "down", "up"} {
		if seen[what] < 200 {
			t.Error("too few:", what, seen)
		}
	}
}

// TestP7_6AllSmallPans compares for each pan up to a size.
func TestP7_6AllSmallPans(t *testing.T) {
	for _, p := range smallPans(4, 3, 3) {
		for start := range eachRange(p.Rim) {
			want, wantErr := steady(p, 100, start), api.OK
			if want.Low < p.Dry {
				want, wantErr = api.Range{}, api.ErrState
			}
			sameSteady(t, "small", p, 100, start, want, wantErr)
		}
	}
}

// smallPans returns all pans with marks, floats and fires up to some bounds.
func smallPans(marks, floats, fires int) []api.Pan {
	var all []api.Pan
	for high := 1; high <= marks; high++ {
		for low := range high {
			for most := range floats + 1 {
				for least := range most + 1 {
					for hot := range fires + 1 {
						for cool := range hot + 1 {
							all = append(all, api.Pan{Low: low, High: high, Least: least, Most: most, Cool: cool, Hot: hot, Rim: high + most + 1})
						}
					}
				}
			}
		}
	}
	return all
}

// eachRange yields all ranges from 0 to a number.
func eachRange(most int) func(yield func(api.Range) bool) {
	return func(yield func(api.Range) bool) {
		for low := range most + 1 {
			for high := low; high <= most; high++ {
				if !yield(r(low, high)) {
					return
				}
			}
		}
	}
}
