package season_test

import (
	"math/rand/v2"
	"slices"
	"testing"

	"spile/api"
	"spile/season"
)

// losing returns the losses of a day as Losses returns them, their greatest one, and their sum by weights.
func losing(t *testing.T, o api.Outlook, day int) (greatest, sum int) {
	t.Helper()
	l, e := season.Losses(o, day)
	if e != api.OK {
		t.Fatal("Losses", o, day, e)
	}
	for s, x := range o.Scenarios {
		sum += x.Weight * l[s]
	}
	return slices.Max(l), sum
}

// eachProof calls for each list of so many numbers below n.
func eachProof(days, n int, begin []int, call func(proof []int)) {
	if len(begin) == days {
		call(begin)
		return
	}
	for s := range n {
		eachProof(days, n, append(slices.Clone(begin), s), call)
	}
}

// TestP9_10Proof looks at all lists: only the loss of Least and less can be proved.
func TestP9_10Proof(t *testing.T) {
	d := dice()
	for range 400 {
		o := anyOutlook(d, pick(d, 1, 4))
		_, loss, proof, e := season.Least(o)
		if is, f := season.Proves(o, loss, proof); !is || e != api.OK || f != api.OK {
			t.Fatal("the proof does not prove its loss:", o, loss, proof, e, f)
		}
		eachProof(len(proof), len(o.Scenarios), nil, func(other []int) {
			if is, e := season.Proves(o, loss+1, other); is || e != api.OK {
				t.Fatal("more is proved:", o, loss+1, other, e)
			}
			if is, _ := season.Proves(o, loss, other); is && slices.Compare(other, proof) < 0 {
				t.Fatal("an earlier scenario proves it, too:", o, loss, other, proof)
			}
		})
	}
}

// TestP9_10NoDayIsBetter looks at the losses of all days.
func TestP9_10NoDayIsBetter(t *testing.T) {
	d := dice()
	nothing := 0
	for range 3000 {
		o := anyOutlook(d, pick(d, 1, 15))
		day, least, _, e := season.Least(o)
		if greatest, _ := losing(t, o, day); greatest != least || e != api.OK {
			t.Fatal("the day loses something else:", o, day, least, greatest, e)
		}
		mean, sum, e := season.Mean(o)
		if _, truly := losing(t, o, mean); truly != sum || e != api.OK {
			t.Fatal("the day loses something else:", o, mean, sum, truly, e)
		}
		for other := range o.Scenarios[0].Runs {
			greatest, all := losing(t, o, other)
			if greatest < least || all < sum {
				t.Fatal("a day is better:", o, other, greatest, all, least, sum)
			}
			if greatest == 0 {
				nothing++
				if least != 0 || sum != 0 {
					t.Fatal("a day that loses nothing is better:", o, other, least, sum)
				}
			}
		}
	}
	if nothing < 300 {
		t.Error("too few days that lose nothing:", nothing)
	}
}

// TestP9_11Beaten compares days with those that beat them.
func TestP9_11Beaten(t *testing.T) {
	d := dice()
	beaten := 0
	for range 3000 {
		o := anyOutlook(d, pick(d, 1, 15))
		day, _, _, _ := season.Least(o)
		by, e := season.Beaten(o)
		if by[day] >= 0 && by[day] < day || e != api.OK {
			t.Fatal("the day of Least is beaten by an earlier one:", o, day, by, e)
		}
		for day, other := range by {
			if other < 0 {
				continue
			}
			beaten++
			greatest, sum := losing(t, o, day)
			less, lessSum := losing(t, o, other)
			if greatest < less || sum <= lessSum {
				t.Fatal("a day that is beaten is better:", o, day, other, greatest, less, sum, lessSum)
			}
		}
	}
	if beaten < 3000 {
		t.Error("too few days that are beaten:", beaten)
	}
}

// gains returns the gain of Plan, and compares it with Worth.
func gains(t *testing.T, o api.Outlook, l []api.SeasonBush) int {
	t.Helper()
	days, gain, e := season.Plan(o, l)
	worth, f := season.Worth(o, l, days)
	if worth != gain || e != api.OK || f != api.OK {
		t.Fatal("Plan", o, l, days, gain, worth, e, f)
	}
	return gain
}

// longer returns an outlook with a day more.
func longer(d *rand.Rand, o api.Outlook) api.Outlook {
	o.Scenarios = slices.Clone(o.Scenarios)
	for i := range o.Scenarios {
		o.Scenarios[i].Runs = append(slices.Clone(o.Scenarios[i].Runs), pick(d, 0, 9))
	}
	return o
}

// TestP9_12More looks at any other plans, and at more of everything.
func TestP9_12More(t *testing.T) {
	d := dice()
	for range 2000 {
		o, l := anyOutlook(d, pick(d, 1, 15)), anyBushes(d, pick(d, 1, 5), pick(d, 1, 5))
		gain := gains(t, o, l)
		for range 20 {
			if other, e := season.Worth(o, l, picks(d, len(l), -1, len(o.Scenarios[0].Runs)-1)); other > gain || e != api.OK && e != api.ErrState {
				t.Fatal("another plan gains more:", o, l, other, gain, e)
			}
		}
		place := pick(d, 0, len(l))
		if more := gains(t, o, slices.Insert(slices.Clone(l), place, anyBushes(d, 1, 5)...)); more < gain {
			t.Fatal("with a bush more:", o, l, gain, more)
		}
		if more := gains(t, longer(d, o), l); more < gain {
			t.Fatal("with a day more:", o, l, gain, more)
		}
		more := slices.Clone(l)
		more[d.IntN(len(l))].Taps += pick(d, 1, 3)
		if more := gains(t, o, more); more < gain {
			t.Fatal("with more taps:", o, l, gain, more)
		}
	}
}

// thin returns what Thin returns.
func thin(t *testing.T, s api.Stand, wood int) (cut []int, worth int) {
	t.Helper()
	cut, worth, e := season.Thin(s, wood)
	if truly, ok := allowed(s, wood, cut); truly != worth || !ok || !slices.IsSorted(cut) || e != api.OK {
		t.Fatal("Thin", s, wood, cut, worth, e)
	}
	return cut, worth
}

// TestP9_13Bounds looks at bounds, at any other trees, and at more wood and fewer pairs.
func TestP9_13Bounds(t *testing.T) {
	d := dice()
	proved := 0
	for range 3000 {
		s := anyStand(d, pick(d, 1, 12))
		wood := pick(d, 0, 40)
		_, worth := thin(t, s, wood)
		_, least, e := season.Price(s, wood)
		if worth > least || e != api.OK {
			t.Fatal("worth more than the least bound:", s, wood, worth, least, e)
		}
		if worth == least {
			proved++
		}
		for range 10 {
			price := lowestTerms(pick(d, 0, 40), pick(d, 1, 20))
			if bound, e := season.Bound(s, wood, price); worth > bound || e != api.OK {
				t.Fatal("worth more than a bound:", s, wood, price, worth, bound, e)
			}
			var other []int
			for i := range s.Stems {
				if d.IntN(2) == 0 {
					other = append(other, i)
				}
			}
			if n, ok := allowed(s, wood, other); ok && n > worth {
				t.Fatal("other trees are worth more:", s, wood, other, n, worth)
			}
		}
		if _, more := thin(t, s, wood+pick(d, 1, 9)); more < worth {
			t.Fatal("with more wood:", s, wood, worth, more)
		}
		if len(s.Beside) > 0 {
			free := s
			place := d.IntN(len(s.Beside))
			free.Beside = slices.Delete(slices.Clone(s.Beside), place, place+1)
			if _, more := thin(t, free, wood); more < worth {
				t.Fatal("with a pair less:", s, wood, worth, more)
			}
		}
	}
	if proved < 300 {
		t.Error("too few that are proved:", proved)
	}
}

// TestP9_14Carbon looks at what was cut, and at what stands from year to year.
func TestP9_14Carbon(t *testing.T) {
	d := dice()
	for range 1000 {
		s := carbons(picks(d, pick(d, 1, 20), 0, 1000)...)
		var cut []int
		was := 0
		for i, x := range s.Stems {
			if d.IntN(2) == 0 {
				cut, was = append(cut, i), was+x.Carbon
			}
		}
		den := pick(d, 1, 20)
		grow, store := lowestTerms(pick(d, 0, den/2), den), lowestTerms(pick(d, 0, den), den)
		before := 0
		for years := range 20 {
			stands, stored, lost, e := season.Carbon(s, cut, years, grow, store)
			if stored+lost != was || stored < 0 || lost < 0 || stands < before || e != api.OK {
				t.Fatal("Carbon", s, cut, years, grow, store, stands, stored, lost, e)
			}
			before = stands
		}
	}
}

// TestP9Examples has those of the chapter, and that of the document.
func TestP9Examples(t *testing.T) {
	for day, want := range [][2][]int{{list(10, 6), list(4, 3)}, {list(14, 0), list(0, 9)}, {list(4, 9), list(10, 0)}, {list(0, 9), list(14, 0)}} {
		sameGains(t, usual(), day, want[0], api.OK)
		sameLosses(t, usual(), day, want[1], api.OK)
	}
	sameLeast(t, usual(), decided{0, 4}, list(0, 1, 0, 0), api.OK)
	sameProves(t, usual(), 4, list(0, 1, 0, 0), true, api.OK)
	for day, want := range []int{13, 27, 10, 14} {
		if _, sum := losing(t, usual(), day); sum != want {
			t.Error("the sum of a day:", day, sum, want)
		}
	}
	sameMean(t, usual(), decided{2, 10}, api.OK)
	sameBeaten(t, usual(), list(-1, -1, -1, 2), api.OK)
	sameWorth(t, usual(), usualBushes(), list(0, 1), 45000, api.OK)
	sameWorth(t, usual(), usualBushes(), list(1, 2), 58000, api.OK)
	samePlan(t, usual(), usualBushes(), 58000, api.OK)
	sameThin(t, usualStand(), 8, list(0, 2), 10, api.OK)
	sameBound(t, usualStand(), 8, part(6, 5), 10, api.OK)
	samePrice(t, usualStand(), 8, part(6, 5), 10, api.OK)
	sameCarbon(t, carbons(100, 100, 100), list(1), 2, part(1, 10), half, carbon{242, 50, 50}, api.OK)
}
