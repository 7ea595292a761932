package pan_test

import (
	"fmt"
	"slices"
	"testing"

	"spile/api"
	"spile/pan"
	"spile/span"
)

// TestP7_10WhateverTheFloatDoes shows that each course lies in Levels, and that each end is reached by one.
func TestP7_10WhateverTheFloatDoes(t *testing.T) {
	d := dice()
	reached := 0
	for range 1500 {
		b := anyBoil(d)
		start := anyStart(d, b.Pans)
		all := newTruths(b, start, 0)
		levels, _, e := pan.Levels(b, start)
		if e != api.OK {
			continue
		}
		for number := range b.Pans {
			for minute, now := range levels {
				for _, end := range list(now[number].Low, now[number].High) {
					masses, at, e := pan.Trace(b, start, number, all.courseTo(number, minute, end))
					if e != api.OK || at != 0 || len(masses) != minute+1 || masses[minute] != end {
						t.Fatal("an end is not reached:", b, start, number, minute, end, masses, at, e)
					}
					reached++
				}
			}
			masses, _, e := pan.Trace(b, start, number, anyCourse(d, all, number))
			for minute, mass := range masses {
				if e != api.OK || !inside(one(mass), levels[minute][number]) {
					t.Fatal("a course leads out of Levels:", b, start, number, masses, levels)
				}
			}
		}
	}
	if reached < 5000 {
		t.Error("too few:", reached)
	}
}

// TestP7_10NeverDry tries courses of boils in which Dry finds nothing.
func TestP7_10NeverDry(t *testing.T) {
	d := dice()
	tried := 0
	for range 3000 {
		b := anyBoil(d)
		for i := range b.Pans {
			b.Pans[i].Dry = min(b.Pans[i].Dry, pick(d, 0, 3))
		}
		start := anyStart(d, b.Pans)
		if _, _, _, e := pan.Dry(b, start); e != api.ErrNone {
			continue
		}
		all := newTruths(b, start, 0)
		for number, p := range b.Pans {
			for range 5 {
				masses, _, e := pan.Trace(b, start, number, anyCourse(d, all, number))
				if e == api.OK && len(masses) > 0 {
					tried++
					if slices.Min(masses) < p.Dry {
						t.Fatal("a pan runs dry:", b, start, number, masses)
					}
				}
			}
		}
	}
	if tried < 2000 {
		t.Error("too few:", tried)
	}
}

// TestP7_11Steady shows that no number leads out of a steady range, for any number of minutes.
func TestP7_11Steady(t *testing.T) {
	d := dice()
	kept := 0
	for range 3000 {
		p := anyPan(d)
		p.Dry = min(p.Dry, 1)
		percent, start := pick(d, 0, 100), anyStart(d, pans(p))[0]
		steady, e := pan.Steady(p, percent, start)
		if e != api.OK {
			continue
		}
		kept++
		for mass := steady.Low; mass <= steady.High; mass++ {
			levels, _, e := pan.Levels(boilOf(pans(p), 1, fire(0, percent)), set(one(mass)))
			if e != api.OK || !inside(levels[0][0], steady) {
				t.Fatal("a minute leads out of it:", p, percent, start, steady, mass, levels)
			}
		}
		b := boilOf(pans(p), 300, fire(0, percent))
		noDry(t, "a steady range", b, set(start), api.ErrNone)
		noDry(t, "all of a steady range", b, set(steady), api.ErrNone)
		same(t, "Steady of a steady range", steadyOf(t, p, percent, steady), e, steady, api.OK)
		smaller := pickRange(d, start.Low, start.High)
		if !inside(steadyOf(t, p, percent, smaller), steady) {
			t.Fatal("a smaller start has a greater range:", p, percent, start, smaller)
		}
	}
	if kept < 500 {
		t.Error("too few:", kept)
	}
}

// steadyOf returns a steady range, which there must be.
func steadyOf(t *testing.T, p api.Pan, fire int, start api.Range) api.Range {
	t.Helper()
	steady, e := pan.Steady(p, fire, start)
	if e != api.OK {
		t.Fatal("Steady", p, fire, start, e)
	}
	return steady
}

// TestP7_12Conserved adds all up, and holds what is in the pans at the end against Trace.
func TestP7_12Conserved(t *testing.T) {
	d := dice()
	followed := 0
	for range 4000 {
		k := anyKnown(d)
		end, left, drawn, steam, e := pan.Follow(k.b, k.pans, k.feed, k.l)
		if e != api.OK {
			continue
		}
		followed++
		if add(append(saps(k.feed), k.pans...)...) != add(append(saps(left, drawn, s(steam, 0)), end...)...) {
			t.Fatal("not every gram:", k, end, left, drawn, steam)
		}
		var start []api.Range
		for _, a := range k.pans {
			start = append(start, one(mass(a)))
		}
		for number, a := range k.pans {
			masses, at, e := pan.Trace(k.b, start, number, api.PanCourse{Start: mass(a), Minutes: k.l[number]})
			if e == api.ErrShort || e == api.ErrSpill {
				continue // Trace looks at all that can truly be, and not at this course alone.
			}
			if e != api.OK || at != 0 || len(masses) != k.b.Minutes || append(list(mass(a)), masses...)[k.b.Minutes] != mass(end[number]) {
				t.Fatal("not what Trace says:", k, number, masses, at, e, end)
			}
		}
	}
	if followed < 1000 {
		t.Error("too few:", followed)
	}
}

// TestP7_12Draw shows that the feed, and what is drawn off, is drawn as chapter 1 says.
func TestP7_12Draw(t *testing.T) {
	d := dice()
	for range 2000 {
		a, feed := s(pick(d, 800, 1500), pick(d, 0, 400)), s(pick(d, 100, 5000), pick(d, 0, 5000))
		off, in := pick(d, 0, mass(a)), pick(d, 50, 100)
		taken, rest, e := span.Draw(a, off)
		if e != api.OK || mass(rest) >= 2000 {
			continue
		}
		let, left, _ := span.Draw(feed, in)
		k := known{boil(1, draw(0, 0, off)), saps(a), feed, each(minutes(in, 0))}
		sameFollow(t, fmt.Sprint(k), k, outcome{saps(add(rest, let)), left, taken, 0, api.OK})
	}
}

// TestP7_13KnownBetter boils with smaller ranges at the start, too.
func TestP7_13KnownBetter(t *testing.T) {
	d := dice()
	compared := 0
	for range 4000 {
		b := anyBoil(d)
		start := anyStart(d, b.Pans)
		wide, _, e := pan.Levels(b, start)
		if e != api.OK {
			continue
		}
		var smaller []api.Range
		for _, a := range start {
			smaller = append(smaller, pickRange(d, a.Low, a.High))
		}
		levels, _, e := pan.Levels(b, smaller)
		if e != api.OK {
			t.Fatal("Levels", b, smaller, e)
		}
		for minute := range levels {
			for number := range levels[minute] {
				compared++
				if !inside(levels[minute][number], wide[minute][number]) {
					t.Fatal("a range is greater:", b, start, smaller, wide, levels)
				}
			}
		}
	}
	if compared < 5000 {
		t.Error("too few:", compared)
	}
}

// TestP7Examples has the chapter's examples.
func TestP7Examples(t *testing.T) {
	hot := boil(300, fire(0, 100))
	levels, _, e := pan.Levels(hot, set(one(1000)))
	if e != api.OK || len(levels) != 300 {
		t.Fatal("Levels", levels, e)
	}
	for minute, want := range map[int]api.Range{0: r(940, 1070), 1: r(930, 1140)} {
		same(t, fmt.Sprint("the minute ", minute), levels[minute][0], e, want, api.OK)
	}
	for minute, want := range map[int]int{14: 800, 15: 790} {
		same(t, fmt.Sprint("the minute ", minute), levels[minute][0].Low, e, want, api.OK)
	}
	sameDry(t, "example 2", hot, set(one(1000)), 0, 15)
	sameSteady(t, "example 2", usual(), 80, one(1000), r(952, 2075), api.OK)
	sameHottest(t, "example 2", boil(300), set(one(1000)), 83, api.OK)
	sameFollow(t, "example 3", oneMinute(100, 0), outcome{saps(s(1068, 32)), s(882, 18), s(0, 0), 0, api.OK})
	water, sugar, e := pan.Content(r(1000, 1100), r(6600, 6700))
	same(t, "example 4", [2]api.Range{water, sugar}, e, [2]api.Range{r(330, 374), r(660, 737)}, api.OK)
	// Example 7 of the document.
	levels, _, _ = pan.Levels(boil(300, fire(0, 83)), set(one(1000)))
	for _, now := range levels {
		if now[0].Low < 950 {
			t.Fatal("less than 950 grams:", now)
		}
	}
	sameDry(t, "one percent more", boil(300, fire(0, 84)), set(one(1000)), 0, 150)
}
