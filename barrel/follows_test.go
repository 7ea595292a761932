package barrel_test

import (
	"fmt"
	"math/rand/v2"
	"slices"
	"testing"

	"spile/api"
	"spile/barrel"
	"spile/span"
)

// truth is what truly happens in a test: the grade of the barrel, and how many grams it holds.
func truth(d *rand.Rand, l api.GradeRules, b api.BarrelTest) (grade, net int) {
	correction, _ := span.Value(l.Correction, truly(d, b.Temperature))
	density := truly(d, b.Hydro) + truly(d, correction)
	var said []int
	finds := map[int]int{}
	for _, t := range b.Panel {
		said = append(said, truly(d, t.Flavour))
		found := t.Sure | t.Perhaps&d.IntN(256)
		for taste := range 8 {
			finds[taste] += found >> taste & 1
		}
	}
	bad := false
	for taste := range 8 {
		bad = bad || finds[taste] >= l.Bad
	}
	off := func() int { return pick(d, -l.Scale, l.Scale) }
	return gradeOf(l, within(l.Density, density), truly(d, b.Light), strengthOf(said), bad), max(0, b.Gross+off()-b.Tare-off())
}

// TestP8_14Truths looks at any truths of tests: at the grade, and at what the barrel is worth, to a thousandth.
func TestP8_14Truths(t *testing.T) {
	d := dice()
	single := 0
	for range 2000 {
		l := anyRules(d)
		b := anyTest(d, l)
		grades, e := barrel.Grades(l, b)
		worth, f := barrel.Worth(l, b)
		if e != api.OK || f != api.OK {
			t.Fatal("Grades and Worth", l, b, e, f)
		}
		if len(grades) == 1 {
			single++
		}
		for range 30 {
			grade, net := truth(d, l, b)
			if !slices.Contains(grades, grade) {
				t.Fatal("the true grade is not there:", l, b, grade, grades)
			}
			if paid := priceOf(l, grade) * net; paid < worth.Low*1000 || paid > worth.High*1000 {
				t.Fatal("it is truly worth something else:", l, b, paid, worth)
			}
		}
	}
	if single < 100 {
		t.Error("too few tests with one grade:", single)
	}
}

// TestP8_14Smaller makes the ranges of tests smaller.
func TestP8_14Smaller(t *testing.T) {
	d := dice()
	seen := map[string]int{}
	for range 5000 {
		l := anyRules(d)
		b := anyTest(d, l)
		c := b
		c.Hydro, c.Temperature, c.Light, c.Panel = narrow(d, b.Hydro), narrow(d, b.Temperature), narrow(d, b.Light), nil
		for _, x := range b.Panel {
			sure := x.Sure | x.Perhaps&d.IntN(256)
			c.Panel = append(c.Panel, tastes(narrow(d, x.Flavour), sure, sure|x.Perhaps&d.IntN(256)))
		}
		m := l
		m.Scale = pick(d, 0, l.Scale)
		wide, _ := barrel.Grades(l, b)
		less, e := barrel.Grades(l, c)
		wideWorth, _ := barrel.Worth(l, b)
		lessWorth, f := barrel.Worth(m, c)
		other := slices.ContainsFunc(less, func(grade int) bool { return !slices.Contains(wide, grade) })
		if other || e != api.OK || f != api.OK || lessWorth.Low < wideWorth.Low || lessWorth.High > wideWorth.High {
			t.Fatal("with smaller ranges there is more:", l, b, c, wide, less, wideWorth, lessWorth, e, f)
		}
		seen[fmt.Sprint(len(less) < len(wide))]++
	}
	if seen["true"] < 500 || seen["false"] < 500 {
		t.Error("too few:", seen)
	}
}

// TestP8_14Grade shows that the only grade is what Grade returns for each truth, and that of several ones each is returned for some.
func TestP8_14Grade(t *testing.T) {
	d := dice()
	single := 0
	for range 1000 {
		l := anyRules(d)
		b := anyTest(d, l)
		grades, _ := barrel.Grades(l, b)
		density, _ := barrel.Density(l, b)
		flavour, possibly, surely, _ := barrel.Panel(l, b)
		seen := map[int]bool{}
		for n := density.Low; n <= density.High; n++ {
			for light := b.Light.Low; light <= b.Light.High; light++ {
				for strength := flavour.Low; strength <= flavour.High; strength++ {
					for _, bad := range []bool{surely > 0, possibly > 0} {
						grade, e := barrel.Grade(l, api.Syrup{Density: n, Light: light, Flavour: strength, Bad: bad})
						if !slices.Contains(grades, grade) || e != api.OK {
							t.Fatal("a grade is not there:", l, b, grade, grades, e)
						}
						seen[grade] = true
					}
				}
			}
		}
		if len(seen) != len(grades) {
			t.Fatal("some grade is not that of any truth:", l, b, seen, grades)
		}
		if len(grades) == 1 {
			single++
		}
	}
	if single < 50 {
		t.Error("too few tests with one grade:", single)
	}
}

// paid returns what kegs are worth by the grades that Kegged returns.
func paid(t *testing.T, l api.GradeRules, k ...api.Keg) int {
	t.Helper()
	all := 0
	for _, x := range k {
		grade, e := barrel.Kegged(l, x)
		if e != api.OK {
			t.Fatal("Kegged", l, x, e)
		}
		all += priceOf(l, grade) * mass(x.Sap)
	}
	return all
}

// TestP8_15NothingLost pours any other kegs together, by the calls of the package, and looks for the gain in what Blend returns.
func TestP8_15NothingLost(t *testing.T) {
	d := dice()
	gains := 0
	for range 1500 {
		l, k := kegRules(d), anyKegs(d, pick(d, 2, 12))
		best, gain, e := barrel.Blend(l, k)
		if e != api.OK || gain < 0 || (gain > 0) != (len(best) > 0) {
			t.Fatal("Blend", l, k, best, gain, e)
		}
		pour := func(set int) int {
			var stay, together []api.Keg
			for i, x := range k {
				if set>>i&1 == 1 {
					together = append(together, x)
				} else {
					stay = append(stay, x)
				}
			}
			mixed, e := barrel.Mixed(together)
			if e != api.OK {
				t.Fatal("Mixed", together, e)
			}
			return paid(t, l, append(stay, mixed)...)
		}
		alone := paid(t, l, k...)
		for range 30 {
			if more := pour(pick(d, 1, 1<<len(k)-1)) - alone; more > gain {
				t.Fatal("other kegs are worth more:", l, k, best, gain, more)
			}
		}
		if len(best) > 0 {
			gains++
			set := 0
			for _, i := range best {
				set |= 1 << i
			}
			if more := pour(set) - alone; more != gain || len(best) < 2 || !slices.IsSorted(best) {
				t.Fatal("the gain is not that of the kegs:", l, k, best, gain, more)
			}
		}
	}
	if gains < 300 {
		t.Error("too few gains:", gains)
	}
}

// TestP8_15AllSap shows that Mixed has all water and all sugar.
func TestP8_15AllSap(t *testing.T) {
	d := dice()
	for range 3000 {
		var l []api.Keg
		var saps []api.Sap
		for range pick(d, 1, 12) {
			sugar := pick(d, 0, ton-1)
			l = append(l, keg(pick(d, 1, ton-sugar), sugar, pick(d, 0, 1000), pick(d, 1, 9)))
			saps = append(saps, l[len(l)-1].Sap)
		}
		mixed, e := barrel.Mixed(l)
		all, f := span.Mix(saps)
		if mixed.Sap != all || e != api.OK || f != api.OK {
			t.Fatal("Mixed", l, mixed, all, e, f)
		}
	}
}

// TestP8_16EachJar compares what the methods tell of each thing and each bush.
func TestP8_16EachJar(t *testing.T) {
	d := dice()
	for range 150 {
		n := pick(d, 1, 30)
		l, k := someThings(t, d, n)
		gathered, kept := 0, 0
		for item := range n {
			left, lost, _ := l.Left(item)
			kept += left + lost
			bushes, e := l.Trace(item)
			if len(bushes) == 0 || !slices.IsSorted(bushes) || e != api.OK {
				t.Fatal("Trace", item, bushes, e)
			}
			if len(k.takes[item]) > 0 {
				continue
			}
			gathered += k.masses[item]
			items, e := l.Recall(item)
			if !slices.IsSorted(items) || e != api.OK {
				t.Fatal("Recall", item, items, e)
			}
			for other := range n {
				trace, _ := l.Trace(other)
				has := slices.Contains(trace, item)
				amount, e := l.Amount(other, item)
				if slices.Contains(items, other) != has || (amount.High > 0) != has || amount.Low > amount.High || amount.Low < 0 || amount.High > k.masses[other] || e != api.OK {
					t.Fatal("they tell different things:", other, item, trace, items, amount, e)
				}
			}
		}
		if gathered != kept {
			t.Fatal("not all grams:", gathered, kept)
		}
	}
}

// mixture is what is truly in a thing now: grams of each bush.
type mixture map[int]int

// take takes so many grams of a mixture: those of the bush first, or last, or any ones.
func (m mixture) take(d *rand.Rand, grams int, liked func(bush int) int) mixture {
	var order []int
	for bush := range m {
		order = append(order, bush)
	}
	slices.Sort(order)
	d.Shuffle(len(order), func(i, j int) { order[i], order[j] = order[j], order[i] })
	slices.SortStableFunc(order, func(a, b int) int { return liked(b) - liked(a) })
	taken := mixture{}
	for i, bush := range order {
		n := min(grams, m[bush])
		if liked(bush) == 0 && i+1 < len(order) {
			rest := 0
			for _, other := range order[i+1:] {
				rest += m[other]
			}
			n = pick(d, max(0, grams-rest), n)
		}
		if n > 0 {
			taken[bush] = n
			m[bush] -= n
			grams -= n
		}
	}
	return taken
}

// TestP8_16Truths follows what is truly in each thing, whichever grams are taken and lost.
func TestP8_16Truths(t *testing.T) {
	d := dice()
	seen := map[string]int{}
	for range 1000 {
		n := pick(d, 3, 12)
		l, k := someThings(t, d, n)
		favourite, like := d.IntN(n), pick(d, -1, 1)
		liked := func(sign int) func(bush int) int {
			return func(bush int) int {
				if bush == favourite {
					return sign
				}
				return 0
			}
		}
		var now []mixture
		for item := range n {
			all := mixture{}
			if len(k.takes[item]) == 0 {
				all[item] = k.masses[item]
			}
			for _, x := range k.takes[item] {
				for bush, grams := range now[x.From].take(d, x.Mass, liked(like)) {
					all[bush] += grams
				}
			}
			all.take(d, k.lost(item), liked(-like))
			now = append(now, all)
			for bush := range item + 1 {
				if len(k.takes[bush]) > 0 {
					continue
				}
				amount, e := l.Amount(item, bush)
				if !within(amount, all[bush]) || e != api.OK {
					t.Fatal("the truth is outside:", k, item, bush, amount, all, e)
				}
				if item == bush || amount.High == 0 {
					continue
				}
				seen["made"]++
				if all[bush] == amount.Low {
					seen["least"]++
				}
				if all[bush] == amount.High {
					seen["most"]++
				}
			}
		}
	}
	for _, what := range []string{"made", "least", "most"} {
		if seen[what] < 1000 {
			t.Error("too few:", what, seen[what])
		}
	}
}

// TestP8Examples has those of the chapter, and that of the document.
func TestP8Examples(t *testing.T) {
	for flavour, want := range map[int]int{3: 1, 1: -1} {
		grade, e := barrel.Grade(usual(), api.Syrup{Density: 6650, Light: 600, Flavour: flavour})
		same(t, "Grade", grade, e, want, api.OK)
	}
	sameNet(t, usual(), usualTest(), r(27800, 28200), api.OK)
	sameDensity(t, usual(), usualTest(), r(6635, 6660), api.OK)
	samePanel(t, usual(), usualTest(), told{one(3), 0, 0}, api.OK)
	sameGrades(t, usual(), usualTest(), list(0, 1), api.OK)
	bad := testWith(func(b *api.BarrelTest) {
		b.Panel[0].Sure, b.Panel[0].Perhaps, b.Panel[2].Perhaps = 1, 1, 1
	})
	samePanel(t, usual(), bad, told{one(3), 1, 0}, api.OK)
	sameGrades(t, usual(), bad, list(-1, 0, 1), api.OK)
	sameWorth(t, usual(), bad, r(8340, 25380), api.OK)
	first := keg(340, 660, 800, 2)
	for light, mixed := range map[int]int{700: 733, 730: 753} {
		second := keg(680, 1320, light, 3)
		sameKegged(t, usual(), first, 0, api.OK)
		sameKegged(t, usual(), second, 1, api.OK)
		sameMixed(t, kegs(first, second), keg(1020, 1980, mixed, 3), api.OK)
	}
	sameBlend(t, usual(), kegs(first, keg(680, 1320, 700, 3)), nil, 0, api.OK)
	sameBlend(t, usual(), kegs(first, keg(680, 1320, 730, 3)), list(0, 1), 2000*100, api.OK)
	l := ledger(t, 1000, 500)
	item, e := l.Make(takes(0, 600, 1, 500), 50)
	same(t, "Make", item, e, 2, api.OK)
	sameLeft(t, l, 2, 50, 1050, api.OK)
	sameAmount(t, l, 2, 0, r(0, 50), api.OK)
	sameLeft(t, l, 0, 400, 0, api.OK)
	sameRecall(t, l, 1, list(1, 2), api.OK)
}
