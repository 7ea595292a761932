package pan_test

import (
	"fmt"
	"math/rand/v2"
	"slices"
	"testing"

	"spile/api"
	"spile/pan"
)

// TestP7_2Marks has the pan at its marks, one gram below them and above, and what reaches over them.
func TestP7_2Marks(t *testing.T) {
	for _, c := range []struct {
		start, cold, hot api.Range
	}{
		{one(1000), r(1000, 1100), r(940, 1070)},
		{one(999), r(1049, 1099), r(989, 1069)},
		{one(1001), r(1001, 1101), r(941, 1071)},
		{one(1999), r(1999, 2099), r(1939, 2069)},
		{one(2000), one(2000), r(1940, 1970)},
		{one(2001), one(2001), r(1941, 1971)},
		{one(3000), one(3000), r(2940, 2970)},
		{one(0), r(50, 100), r(0, 70)},
		{one(9), r(59, 109), r(0, 79)},
		{one(10), r(60, 110), r(0, 80)},
		{one(11), r(61, 111), r(1, 81)},
		{r(0, 3000), r(50, 3000), r(0, 2970)},
		{r(998, 999), r(1048, 1099), r(988, 1069)},
		{r(999, 1000), r(1000, 1100), r(940, 1070)},
		{r(900, 1000), r(950, 1100), r(890, 1070)},
		{r(960, 1500), r(1000, 1600), r(940, 1570)},
		{r(1999, 2000), r(1999, 2099), r(1939, 2069)},
		{r(1500, 2099), r(1500, 2099), r(1440, 2069)},
		{r(1500, 2100), r(1500, 2100), r(1440, 2070)},
		{r(2000, 2001), r(2000, 2001), r(1940, 1971)},
		{r(999, 2000), r(1000, 2099), r(940, 2069)},
		{r(400, 2500), r(450, 2500), r(390, 2470)},
	} {
		sameLevels(t, fmt.Sprint("cold ", c.start), boil(1), set(c.start), [][]api.Range{set(c.cold)})
		sameLevels(t, fmt.Sprint("hot ", c.start), boil(1, fire(0, 100)), set(c.start), [][]api.Range{set(c.hot)})
	}
}

// TestP7_2Fire has a fire with which Cool and Hot are rounded, of 0 and of 100, and one that is changed several times.
func TestP7_2Fire(t *testing.T) {
	closed := panWith(func(p *api.Pan) { p.Cool, p.Hot = 33, 67 })
	for _, c := range []struct{ fire, least, most int }{
		{0, 0, 0}, {1, 0, 1}, {2, 0, 2}, {3, 0, 3}, {4, 1, 3}, {50, 16, 34}, {99, 32, 67}, {98, 32, 66}, {100, 33, 67},
	} {
		want := set(r(2500-c.most, 2500-c.least))
		sameLevels(t, fmt.Sprint("fire ", c), boilOf(pans(closed), 1, fire(0, c.fire)), set(one(2500)), [][]api.Range{want})
		sameLevels(t, fmt.Sprint("the last fire ", c), boilOf(pans(closed), 1, fire(0, 100), fire(0, 0), fire(0, c.fire)), set(one(2500)), [][]api.Range{want})
	}
	sameLevels(t, "several fires", boil(6, fire(1, 100), fire(1, 50), fire(2, 0), fire(4, 100), fire(5, 1)), set(one(2900)), [][]api.Range{
		set(one(2900)), set(r(2870, 2885)), set(r(2870, 2885)), set(r(2870, 2885)), set(r(2810, 2855)), set(r(2809, 2855)),
	})
	two := boilOf(times(2, usual()), 2, fire(1, 10))
	sameLevels(t, "the fire of all pans", two, set(one(2900), one(2000)), [][]api.Range{set(one(2900), one(2000)), set(r(2894, 2897), r(1994, 1997))})
}

// TestP7_2Shut shuts floats, twice too, and opens them again.
func TestP7_2Shut(t *testing.T) {
	b := boilOf(times(2, usual()), 6, shut(1, 0), fire(2, 10), shut(2, 0), open(3, 0), shut(3, 1), shut(4, 1), open(4, 1), open(5, 0), shut(5, 0))
	sameLevels(t, "shut", b, set(one(900), one(500)), [][]api.Range{
		set(r(950, 1000), r(550, 600)),
		set(r(950, 1000), r(600, 700)),
		set(r(944, 997), r(644, 797)),
		set(r(988, 1094), r(638, 794)),
		set(r(994, 1191), r(682, 891)),
		set(r(988, 1188), r(726, 988)),
	})
}

// TestP7_2Order carries out acts of a minute in their order, before anything comes in or boils off.
func TestP7_2Order(t *testing.T) {
	two := times(2, usual())
	start := set(one(500), one(2990))
	sameLevels(t, "first drawn off", boilOf(two, 1, draw(0, 1, 500), move(0, 0, 500)), start, [][]api.Range{set(r(50, 100), one(2990))})
	sameLevels(t, "below Low by an act", boilOf(two, 1, draw(0, 1, 1991)), start, [][]api.Range{set(r(550, 600), r(1049, 1099))})
	sameLevels(t, "to Low by an act", boilOf(two, 1, draw(0, 1, 1990)), start, [][]api.Range{set(r(550, 600), r(1000, 1100))})
	sameLevels(t, "to High by an act", boilOf(two, 1, draw(0, 1, 990)), start, [][]api.Range{set(r(550, 600), one(2000))})
	sameLevels(t, "to High by a move", boilOf(two, 1, move(0, 0, 1)), set(one(1000), one(1999)), [][]api.Range{set(r(1049, 1099), one(2000))})
	three := boilOf(times(3, usual()), 2, move(1, 0, 100), move(1, 1, 200), draw(1, 2, 300))
	sameLevels(t, "through all pans", three, set(one(2500), one(2600), one(2700)), [][]api.Range{
		set(one(2500), one(2600), one(2700)), set(one(2400), one(2500), one(2600)),
	})
	sameLevels(t, "nothing is moved", boilOf(two, 1, move(0, 0, 0), draw(0, 0, 0)), set(one(0), one(3000)), [][]api.Range{set(r(50, 100), one(3000))})
}

// TestP7_2Minutes has no minutes, and as many as there can be.
func TestP7_2Minutes(t *testing.T) {
	sameLevels(t, "no minute", boil(0), set(one(1000)), nil)
	levels, _, e := pan.Levels(boil(300, fire(0, 100), fire(299, 0)), set(one(3000)))
	if len(levels) != 300 || e != api.OK || levels[298][0] != r(0, 2069) || levels[299][0] != r(50, 2099) {
		t.Error("300 minutes", len(levels), levels, e)
	}
	six, _, e := pan.Levels(boilOf(times(6, usual()), 300), times(6, one(2000)))
	if len(six) != 300 || e != api.OK || !slices.Equal(six[299], times(6, one(2000))) {
		t.Error("six pans", six, e)
	}
	full := panWith(func(p *api.Pan) { p.Rim, p.High, p.Most, p.Hot = 1000000, 900000, 100000, 100000 })
	sameLevels(t, "as much as can be", boilOf(pans(full), 1, fire(0, 100)), set(r(0, 1000000)), [][]api.Range{set(r(0, 999970))})
}

// TestP7_2Errors has just as much as is moved or drawn off, and one gram less; what just fills the next pan, and one gram more.
func TestP7_2Errors(t *testing.T) {
	two := times(2, usual())
	for i, c := range []struct {
		b     api.Boil
		start []api.Range
		at    int
		want  api.Errno
	}{
		{boilOf(two, 1, draw(0, 0, 500)), set(r(500, 2000), one(0)), 0, api.OK},
		{boilOf(two, 1, draw(0, 0, 501)), set(r(500, 2000), one(0)), 0, api.ErrShort},
		{boilOf(two, 1, draw(0, 1, 501)), set(one(501), r(500, 501)), 0, api.ErrShort},
		{boilOf(two, 1, move(0, 0, 500)), set(r(500, 2000), one(0)), 0, api.OK},
		{boilOf(two, 1, move(0, 0, 501)), set(r(500, 2000), one(0)), 0, api.ErrShort},
		{boilOf(two, 1, move(0, 0, 500)), set(r(500, 2000), r(0, 2500)), 0, api.OK},
		{boilOf(two, 1, move(0, 0, 500)), set(r(500, 2000), r(0, 2501)), 0, api.ErrSpill},
		{boilOf(two, 1, move(0, 0, 501)), set(r(500, 2000), r(0, 2501)), 0, api.ErrShort},
		{boilOf(two, 1, move(0, 0, 1000000)), set(one(3000), one(3000)), 0, api.ErrShort},
		{boilOf(two, 1, fire(0, 9), move(0, 0, 1)), set(one(1), one(3000)), 1, api.ErrSpill},
		{boilOf(two, 1, move(0, 0, 500), draw(0, 1, 500)), set(one(500), one(2990)), 0, api.ErrSpill},
		{boilOf(two, 1, draw(0, 1, 490), move(0, 0, 500)), set(one(500), one(2990)), 0, api.OK},
		{boilOf(two, 1, draw(0, 1, 489), move(0, 0, 500)), set(one(500), one(2990)), 1, api.ErrSpill},
		{boilOf(two, 1, move(0, 0, 500), move(0, 0, 1), draw(0, 0, 1)), set(one(500), one(0)), 1, api.ErrShort},
		{boilOf(two, 1, move(0, 0, 500), draw(0, 1, 501), draw(0, 1, 9)), set(one(500), one(1)), 2, api.ErrShort},
		{boilOf(two, 2, shut(0, 0), fire(1, 100), draw(1, 0, 500)), set(one(500), one(1)), 0, api.OK},
		{boilOf(two, 2, shut(0, 0), fire(0, 100), draw(1, 0, 441)), set(one(500), one(1)), 2, api.ErrShort},
		{boilOf(two, 2, shut(0, 0), fire(0, 100), draw(1, 0, 440)), set(one(500), one(1)), 0, api.OK},
		{boilOf(two, 2, draw(1, 0, 551), draw(1, 0, 1)), set(one(500), one(1)), 0, api.ErrShort},
		{boilOf(two, 2, draw(1, 0, 550), move(1, 0, 1)), set(one(500), one(1)), 1, api.ErrShort},
		{boilOf(two, 2, move(1, 0, 1000)), set(one(1200), one(1901)), 0, api.ErrSpill},
		{boilOf(two, 2, move(1, 0, 1000)), set(one(1200), one(1900)), 0, api.OK},
		{boilOf(two, 2, move(1, 0, 1000)), set(one(1200), one(2000)), 0, api.OK},
		{boilOf(two, 2, move(1, 0, 1000)), set(one(1200), one(2001)), 0, api.ErrSpill},
		{boilOf(times(3, usual()), 1, move(0, 1, 700), move(0, 0, 1)), set(one(0), one(700), one(2300)), 1, api.ErrShort},
		{boilOf(times(3, usual()), 1, move(0, 1, 701), move(0, 0, 1)), set(one(0), one(700), one(2300)), 0, api.ErrShort},
		{boilOf(times(3, usual()), 1, move(0, 1, 700), move(0, 0, 1)), set(one(9), one(700), one(2301)), 0, api.ErrSpill},
	} {
		levels, at, e := pan.Levels(c.b, c.start)
		if at != c.at || e != c.want || (levels != nil) != (e == api.OK) {
			t.Error("Levels", i, levels, at, e, "want", c.at, c.want)
		}
		// Trace looks at nothing else before these errors.
		masses, at, e := pan.Trace(c.b, c.start, 9, course(low, low, low))
		if c.want != api.OK && (masses != nil || at != c.at || e != c.want) {
			t.Error("Trace", i, masses, at, e, "want", c.at, c.want)
		}
		if c.want != api.OK {
			noDry(t, fmt.Sprint(i), c.b, c.start, c.want)
		}
	}
}

// TestP7_2Definitions compares with each number that can truly be in each pan.
func TestP7_2Definitions(t *testing.T) {
	d := dice()
	seen := map[string]int{}
	for range 4000 {
		b := anyBoil(d)
		start := anyStart(d, b.Pans)
		want := newTruths(b, start, 0)
		levels, at, e := pan.Levels(b, start)
		if !slices.EqualFunc(levels, want.levels(), slices.Equal) || at != want.at || e != want.e {
			t.Fatal("Levels", b, start, levels, at, e, want.levels(), want.at, want.e)
		}
		seen[fmt.Sprint(e)]++
		if at > 0 {
			seen["later"]++
		}
		for _, a := range b.Acts {
			if e == api.OK {
				seen[fmt.Sprint("kind ", a.Kind)]++
			}
		}
	}
	for _, what := range []string{"0", "70", "71", "later", "kind 1", "kind 2", "kind 3", "kind 4", "kind 5"} {
		if seen[what] < 100 {
			t.Error("too few:", what, seen)
		}
	}
}

// TestP7_2NoGap shows that each number of a range can be in the pan.
func TestP7_2NoGap(t *testing.T) {
	d := dice()
	for range 1000 {
		b := anyBoil(d)
		start := anyStart(d, b.Pans)
		for _, end := range newTruths(b, start, 0).ends {
			for _, m := range end {
				if l := ascending(m); l[len(l)-1]-l[0] != len(l)-1 {
					t.Fatal("there are numbers that can not be in the pan:", b, start, l)
				}
			}
		}
	}
}

func TestP7_3Trace(t *testing.T) {
	b := boilOf(times(2, usual()), 3, fire(1, 100), shut(1, 0), draw(1, 0, 100), move(2, 0, 5), open(2, 0))
	start := set(r(950, 1050), r(1990, 2010))
	for _, c := range []struct {
		pan  int
		c    api.PanCourse
		want []int
	}{
		{0, course(1000), nil},
		{0, course(1000, 0, 0), list(1000)},
		{0, course(1000, 100, 0), list(1100)},
		{0, course(999, 50, 0), list(1049)},
		{0, course(999, 100, 0), list(1099)},
		{0, course(1050, 7, 0, 0, 30), list(1057, 927)},
		{0, course(1050, 7, 0, 0, 60), list(1057, 897)},
		{0, course(1050, 7, 0, 0, 60, 50, 60), list(1057, 897, 882)},
		{0, course(1050, 100, 0, 0, 30, 0, 30), list(1150, 1020, 985)},
		{1, course(1990, 100, 0, 0, 45, 0, 33), list(2090, 2045, 2017)},
		{1, course(2000, 0, 0, 0, 31, 100, 33), list(2000, 1969, 2041)},
		{1, course(2010, 0, 0, 0, 60, 55, 60), list(2010, 1950, 1950)},
	} {
		sameTrace(t, fmt.Sprint(c), b, start, c.pan, c.c, c.want, 0, api.OK)
	}
}

// TestP7_3Errors has courses that start outside of the range, that are too long, and in which so much can not come in, or not boil off.
func TestP7_3Errors(t *testing.T) {
	b := boilOf(times(2, usual()), 3, fire(1, 100), shut(1, 0), draw(1, 0, 100), move(2, 0, 5), open(2, 0))
	start := set(r(950, 1050), r(1990, 2010))
	for _, c := range []struct {
		pan  int
		c    api.PanCourse
		at   int
		want api.Errno
	}{
		{-1, course(0, -1, -1), 0, api.ErrNone}, {2, course(0, 0, 0, 0, 0, 0, 0, 0, 0), 0, api.ErrNone}, {low, course(1000), 0, api.ErrNone}, {high, course(1000), 0, api.ErrNone},
		{0, course(949, 0, 0, 0, 0, 0, 0, 0, 0), 0, api.ErrForm}, {1, course(2000, 0, 0, 0, 30, 0, 30, 0, 30), 0, api.ErrForm},
		{0, course(949, -1, 0), 0, api.ErrRange}, {0, course(1051, -1, 0), 0, api.ErrRange}, {1, course(1000), 0, api.ErrRange}, {0, course(2000, 0, 0), 0, api.ErrRange}, {1, course(1989), 0, api.ErrRange}, {1, course(2011), 0, api.ErrRange}, {1, course(low), 0, api.ErrRange}, {1, course(high), 0, api.ErrRange},
		{0, course(1000, -1, 0), 0, api.ErrState}, {0, course(1000, 101, 0), 0, api.ErrState}, {0, course(999, 49, 0), 0, api.ErrState}, {0, course(999, 101, 0), 0, api.ErrState}, {1, course(2000, 1, 0), 0, api.ErrState}, {1, course(2000, -1, 0), 0, api.ErrState}, {1, course(1999, 101, 0), 0, api.ErrState},
		{0, course(1000, high, 0), 0, api.ErrState}, {0, course(1000, low, 0), 0, api.ErrState}, {0, course(1000, 0, high), 0, api.ErrState}, {0, course(1000, 0, low), 0, api.ErrState},
		{0, course(1000, 0, 1), 0, api.ErrState}, {0, course(1000, 0, -1), 0, api.ErrState},
		{0, course(1000, 0, 0, 0, 29), 1, api.ErrState}, {0, course(1000, 0, 0, 0, 61), 1, api.ErrState}, {0, course(1000, 0, 0, 1, 30), 1, api.ErrState}, {0, course(1000, 0, 0, 0, 30, 49, 30), 2, api.ErrState}, {0, course(1000, 0, 0, 0, 30, 101, 30), 2, api.ErrState}, {0, course(1000, 0, 0, 0, 30, 50, 61), 2, api.ErrState},
		{1, course(2000, 0, 0, 0, 30, 0, 29), 2, api.ErrState}, {1, course(2000, 0, 0, 0, 29, 101, 0), 1, api.ErrState}, {0, course(1000, 101, 1, 0, 30), 0, api.ErrState},
	} {
		sameTrace(t, fmt.Sprint(c), b, start, c.pan, c.c, nil, c.at, c.want)
	}
	sameTrace(t, "no minute", boil(0), set(one(1)), 0, course(1), nil, 0, api.OK)
	sameTrace(t, "more than no minute", boil(0), set(one(1)), 0, course(2, 0, 0), nil, 0, api.ErrForm)
}

// TestP7_3All has more that boils off than there is: then it is all of it.
func TestP7_3All(t *testing.T) {
	b := boil(2, shut(0, 0), fire(0, 100))
	for _, c := range []struct {
		start, off int
		want       []int
		e          api.Errno
	}{
		{61, 60, list(1), api.OK}, {61, 61, nil, api.ErrState}, {60, 60, list(0), api.OK}, {59, 59, list(0), api.OK}, {59, 60, nil, api.ErrState}, {31, 30, list(1), api.OK}, {31, 31, list(0), api.OK}, {30, 30, list(0), api.OK}, {30, 29, nil, api.ErrState}, {29, 29, list(0), api.OK}, {29, 28, nil, api.ErrState}, {29, 30, nil, api.ErrState}, {0, 0, list(0), api.OK}, {0, 1, nil, api.ErrState}, {0, 30, nil, api.ErrState},
	} {
		sameTrace(t, fmt.Sprint(c), b, set(r(0, 100)), 0, course(c.start, 0, c.off), c.want, 0, c.e)
	}
	sameTrace(t, "what has just come in", boil(1, fire(0, 100)), set(one(0)), 0, course(0, 55, 55), list(0), 0, api.OK)
	sameTrace(t, "nothing is left", b, set(one(30)), 0, course(30, 0, 30, 0, 0), list(0, 0), 0, api.OK)
	sameTrace(t, "nothing is left that boils", b, set(one(30)), 0, course(30, 0, 30, 0, 1), nil, 1, api.ErrState)
}

// anyCourse returns a course that often, and not always, can be.
func anyCourse(d *rand.Rand, t truths, pan int) api.PanCourse {
	c := api.PanCourse{Start: pick(d, t.start[pan].Low, t.start[pan].High)}
	if t.boil.Minutes > 0 {
		minute := d.IntN(t.boil.Minutes)
		all := ascending(t.ends[minute][pan])
		c = t.courseTo(pan, minute, all[d.IntN(len(all))])
	}
	switch d.IntN(6) {
	case 0:
		c.Start += pick(d, -1, 1)
	case 1, 2:
		if len(c.Minutes) > 0 {
			m := &c.Minutes[d.IntN(len(c.Minutes))]
			m.In, m.Off = m.In+pick(d, -1, 1), m.Off+pick(d, -1, 1)
		}
	case 3:
		c.Minutes = append(c.Minutes, minutes(pick(d, 0, 6), pick(d, 0, 8))...)
	}
	return c
}

// TestP7_3Definitions compares with what is in the pan by the definitions.
func TestP7_3Definitions(t *testing.T) {
	d := dice()
	seen := map[string]int{}
	for range 4000 {
		b := anyBoil(d)
		start := anyStart(d, b.Pans)
		all := newTruths(b, start, 0)
		if all.e != api.OK {
			continue
		}
		number := d.IntN(len(b.Pans))
		c := anyCourse(d, all, number)
		want, at, ok := follow(b, start, number, c)
		e := api.OK
		switch {
		case len(c.Minutes) > b.Minutes:
			want, at, e = nil, 0, api.ErrForm
		case at < 0:
			at, e = 0, api.ErrRange
		case !ok:
			e = api.ErrState
		}
		sameTrace(t, fmt.Sprint(b, start, c), b, start, number, c, want, at, e)
		seen[fmt.Sprint(e)]++
		if at > 0 {
			seen["later"]++
		}
	}
	for _, what := range []string{"0", "3", "4", "9", "later"} {
		if seen[what] < 100 {
			t.Error("too few:", what, seen)
		}
	}
}
