package barrel_test

import (
	"fmt"
	"math/rand/v2"
	"testing"

	"spile/api"
	"spile/barrel"
)

// kegCases are kegs at the bounds of each field, and one step beyond them.
func kegCases() []struct {
	k    api.Keg
	want api.Errno
} {
	return []struct {
		k    api.Keg
		want api.Errno
	}{
		{keg(340, 660, 800, 2), api.OK}, {api.Keg{}, api.ErrArg},
		{keg(1, 0, 0, 1), api.OK}, {keg(0, 1, 0, 1), api.OK}, {keg(0, 0, 0, 1), api.ErrArg}, {keg(-1, 1, 0, 1), api.ErrArg}, {keg(-1, 2, 0, 1), api.ErrArg}, {keg(2, -1, 0, 1), api.ErrArg}, {keg(-1, -1, 0, 1), api.ErrArg},
		{keg(ton, 0, 0, 1), api.OK}, {keg(0, ton, 0, 1), api.OK}, {keg(ton-1, 1, 0, 1), api.OK}, {keg(ton, 1, 0, 1), api.ErrArg}, {keg(1, ton, 0, 1), api.ErrArg}, {keg(ton+1, 0, 0, 1), api.ErrArg}, {keg(ton+1, -1, 0, 1), api.ErrArg}, {keg(api.MaxMass, 0, 0, 1), api.ErrArg}, {keg(high, high, 0, 1), api.ErrArg}, {keg(low, low, 0, 1), api.ErrArg}, {keg(high, low+101, 0, 1), api.ErrArg}, {keg(low+101, high, 0, 1), api.ErrArg}, {keg(high, -high+1, 0, 1), api.ErrArg},
		{keg(1, 1, 1000, 1), api.OK}, {keg(1, 1, 1001, 1), api.ErrArg}, {keg(1, 1, -1, 1), api.ErrArg}, {keg(1, 1, low, 1), api.ErrArg}, {keg(1, 1, high, 1), api.ErrArg},
		{keg(1, 1, 0, 9), api.OK}, {keg(1, 1, 0, 10), api.ErrArg}, {keg(1, 1, 0, 0), api.ErrArg}, {keg(1, 1, 0, -1), api.ErrArg}, {keg(1, 1, 0, low), api.ErrArg}, {keg(1, 1, 0, high), api.ErrArg},
	}
}

// TestP8_8Kegs asks about kegs alone, and about them among others.
func TestP8_8Kegs(t *testing.T) {
	fine := keg(340, 660, 800, 2)
	for _, c := range kegCases() {
		_, e := barrel.Kegged(usual(), c.k)
		sameErr(t, fmt.Sprint("Kegged ", c.k), e, c.want)
		for _, l := range [][]api.Keg{kegs(c.k), kegs(c.k, fine), kegs(fine, c.k), kegs(fine, c.k, fine), kegs(c.k, c.k)} {
			mixed, e := barrel.Mixed(l)
			sameErr(t, fmt.Sprint("Mixed ", l), e, c.want)
			if e != api.OK && mixed != (api.Keg{}) {
				t.Error("beside an error:", mixed)
			}
			_, _, e = barrel.Blend(usual(), l)
			sameErr(t, fmt.Sprint("Blend ", l), e, c.want)
		}
	}
}

func TestP8_8Mixed(t *testing.T) {
	for _, c := range []struct {
		l    []api.Keg
		want api.Keg
		e    api.Errno
	}{
		{kegs(keg(340, 660, 800, 2), keg(680, 1320, 700, 3)), keg(1020, 1980, 733, 3), api.OK}, {kegs(keg(340, 660, 800, 2), keg(680, 1320, 730, 3)), keg(1020, 1980, 753, 3), api.OK}, {kegs(keg(340, 660, 800, 2)), keg(340, 660, 800, 2), api.OK},
		{kegs(keg(1, 0, 0, 1), keg(0, 1, 1, 9)), keg(1, 1, 0, 9), api.OK}, {kegs(keg(1, 0, 1, 9), keg(0, 1, 1, 1)), keg(1, 1, 1, 9), api.OK}, {kegs(keg(1, 1, 10, 4), keg(0, 1, 13, 5), keg(3, 4, 1, 3)), keg(4, 6, 4, 5), api.OK}, {kegs(keg(1, 1, 10, 4), keg(0, 1, 12, 5), keg(3, 4, 1, 3)), keg(4, 6, 3, 5), api.OK},
		{kegs(keg(1, 0, 1000, 1), keg(ton, 0, 0, 1)), keg(ton+1, 0, 0, 1), api.OK}, {kegs(keg(1, 0, 0, 1), keg(ton, 0, 1000, 1)), keg(ton+1, 0, 999, 1), api.OK}, {times(12, keg(ton, 0, 1000, 9)), keg(12*ton, 0, 1000, 9), api.OK}, {times(12, keg(0, ton, 1000, 9)), keg(0, 12*ton, 1000, 9), api.OK}, {times(12, keg(0, 1, 0, 1)), keg(0, 12, 0, 1), api.OK},
		{nil, api.Keg{}, api.ErrForm}, {kegs(), api.Keg{}, api.ErrForm}, {times(13, keg(1, 1, 1, 1)), api.Keg{}, api.ErrLong}, {times(13, api.Keg{}), api.Keg{}, api.ErrLong}, {times(100000, keg(1, 1, 1, 1)), api.Keg{}, api.ErrLong}, {times(12, api.Keg{}), api.Keg{}, api.ErrArg},
	} {
		sameMixed(t, c.l, c.want, c.e)
	}
}

func TestP8_8Kegged(t *testing.T) {
	wide := rulesWith(func(l *api.GradeRules) { l.Density = r(0, 10000) })
	water := rulesWith(func(l *api.GradeRules) { l.Density = one(0) })
	sugar := rulesWith(func(l *api.GradeRules) { l.Density = one(10000) })
	third := rulesWith(func(l *api.GradeRules) { l.Density = r(3333, 3334) })
	less := rulesWith(func(l *api.GradeRules) { l.Density = one(3333) })
	more := rulesWith(func(l *api.GradeRules) { l.Density = one(3334) })
	for _, c := range []struct {
		l    api.GradeRules
		k    api.Keg
		want int
	}{
		{usual(), keg(340, 660, 800, 2), 0}, {usual(), keg(680, 1320, 700, 3), 1}, {usual(), keg(680, 1320, 730, 5), 1}, {usual(), keg(680, 1320, 730, 6), -1}, {usual(), keg(680, 1320, 499, 9), 2}, {usual(), keg(680, 1320, 249, 9), -1}, {usual(), keg(680, 1320, 1000, 4), -1},
		{usual(), keg(341, 659, 800, 2), -1}, {usual(), keg(311, 689, 800, 2), 0}, {usual(), keg(310, 690, 800, 2), -1}, {usual(), keg(3400, 6600, 800, 2), 0}, {usual(), keg(3401, 6600, 800, 2), -1}, {usual(), keg(3110, 6890, 800, 2), 0}, {usual(), keg(3110, 6891, 800, 2), -1},
		{wide, keg(1, 0, 800, 2), 0}, {wide, keg(0, 1, 800, 2), 0}, {water, keg(1, 0, 800, 2), 0}, {water, keg(ton-1, 1, 800, 2), -1}, {sugar, keg(0, 1, 800, 2), 0}, {sugar, keg(1, ton-1, 800, 2), -1}, {sugar, keg(0, ton, 800, 2), 0}, {third, keg(2, 1, 800, 2), 0}, {less, keg(2, 1, 800, 2), -1}, {more, keg(2, 1, 800, 2), -1}, {less, keg(6667, 3333, 800, 2), 0}, {more, keg(6666, 3334, 800, 2), 0},
		{usual(), keg(340000000, 660000000, 800, 2), 0}, {usual(), keg(340000001, 659999999, 800, 2), -1}, {usual(), keg(311000000, 689000000, 800, 2), 0}, {usual(), keg(310999999, 689000001, 800, 2), -1},
	} {
		sameKegged(t, c.l, c.k, c.want, api.OK)
	}
	bad := rulesWith(func(l *api.GradeRules) { l.Scale = -1 })
	sameKegged(t, bad, keg(340, 660, 800, 2), 0, api.ErrArg)
	sameKegged(t, usual(), keg(0, 0, 800, 2), 0, api.ErrArg)
}

// anyKegs returns kegs that are often of several classes, and sometimes not as dense as the rules want it.
func anyKegs(d *rand.Rand, n int) []api.Keg {
	var l []api.Keg
	for range n {
		sugar, water := pick(d, 10, 30), pick(d, 10, 30)
		if d.IntN(2) == 0 {
			sugar, water = 10, 10
		}
		l = append(l, keg(water, sugar, pick(d, 0, 70), min(pick(d, 1, 9), pick(d, 1, 9))))
	}
	return l
}

// kegRules returns rules with a wide density for kegs.
func kegRules(d *rand.Rand) api.GradeRules {
	l := anyRules(d)
	l.Density = pickRange(d, 3500, 6500)
	if d.IntN(2) == 0 {
		l.Density = r(pick(d, 3000, 5000), pick(d, 5000, 7000))
	}
	return l
}

// keggedOf returns the grade of a keg by the definition.
func keggedOf(l api.GradeRules, k api.Keg) int {
	dense := l.Density.Low*mass(k.Sap) <= k.Sap.Sugar*10000 && k.Sap.Sugar*10000 <= l.Density.High*mass(k.Sap)
	return gradeOf(l, dense, k.Light, k.Flavour, false)
}

// mixedOf returns kegs poured together by the definition.
func mixedOf(l []api.Keg) api.Keg {
	var all api.Keg
	light := 0
	for _, k := range l {
		all.Sap = s(all.Sap.Water+k.Sap.Water, all.Sap.Sugar+k.Sap.Sugar)
		light += k.Light * mass(k.Sap)
		all.Flavour = max(all.Flavour, k.Flavour)
	}
	all.Light = light / mass(all.Sap)
	return all
}

func TestP8_8Definitions(t *testing.T) {
	d := dice()
	for range 5000 {
		l, k := kegRules(d), anyKegs(d, pick(d, 1, 12))
		sameMixed(t, k, mixedOf(k), api.OK)
		sameKegged(t, l, k[0], keggedOf(l, k[0]), api.OK)
		sameKegged(t, l, mixedOf(k), keggedOf(l, mixedOf(k)), api.OK)
	}
}

// eachList calls for each list of numbers below n, from the smallest one on.
func eachList(n int, begin []int, call func(list []int)) {
	call(begin)
	first := 0
	if len(begin) > 0 {
		first = begin[len(begin)-1] + 1
	}
	for i := first; i < n; i++ {
		eachList(n, append(append([]int{}, begin...), i), call)
	}
}

// allWorth returns what all kegs are worth when some are poured together.
func allWorth(l api.GradeRules, k []api.Keg, choice []int) int {
	worth := 0
	var together []api.Keg
	for i, x := range k {
		if len(choice) > 0 && choice[0] == i {
			together, choice = append(together, x), choice[1:]
			continue
		}
		worth += priceOf(l, keggedOf(l, x)) * mass(x.Sap)
	}
	if len(together) > 0 {
		all := mixedOf(together)
		worth += priceOf(l, keggedOf(l, all)) * mass(all.Sap)
	}
	return worth
}

// blendOf returns what Blend must return, and how many lists are worth as much.
func blendOf(l api.GradeRules, k []api.Keg) (best []int, gain, many int) {
	before := allWorth(l, k, nil)
	eachList(len(k), nil, func(list []int) {
		if len(list) < 2 {
			return
		}
		switch more := allWorth(l, k, list) - before; {
		case more > gain:
			best, gain, many = list, more, 1
		case more == gain:
			many++
		}
	})
	return best, gain, many
}

func TestP8_9Blend(t *testing.T) {
	a, b, c := keg(340, 660, 800, 2), keg(680, 1320, 700, 3), keg(680, 1320, 730, 3)
	thick := keg(250, 750, 800, 2)
	thin := keg(400, 600, 800, 2)
	strong := keg(340, 660, 800, 4) // the first class, but for its flavour: in none
	dark := keg(340, 660, 240, 3)   // in no class
	flat := rulesWith(func(l *api.GradeRules) {
		l.Price, l.Classes[0].Price, l.Classes[1].Price, l.Classes[2].Price = 5, 5, 5, 5
	})
	dear := rulesWith(func(l *api.GradeRules) { l.Price = 1000 })
	for _, x := range []struct {
		l    api.GradeRules
		k    []api.Keg
		want []int
		gain int
	}{
		{usual(), nil, nil, 0}, {usual(), kegs(), nil, 0}, {usual(), kegs(a), nil, 0}, {usual(), kegs(dark), nil, 0},
		{usual(), kegs(a, b), nil, 0}, {usual(), kegs(a, c), list(0, 1), 200000}, {usual(), kegs(c, a), list(0, 1), 200000}, {usual(), kegs(b, a, c), list(1, 2), 200000}, {usual(), kegs(a, b, c), list(0, 2), 200000},
		{usual(), kegs(a, a), nil, 0}, {usual(), times(12, a), nil, 0}, {usual(), kegs(a, a, c), list(0, 1, 2), 200000}, {usual(), kegs(a, c, a), list(0, 1), 200000}, {usual(), kegs(c, a, a), list(0, 1), 200000}, {usual(), kegs(a, c, c), list(0, 1), 200000}, {usual(), kegs(a, a, b), list(0, 1, 2), 200000}, {usual(), kegs(a, a, c, c), list(0, 1, 2, 3), 400000},
		{usual(), kegs(thick, thin), list(0, 1), 2000 * 600}, {usual(), kegs(thin, thin), nil, 0}, {usual(), kegs(thick, thick), nil, 0}, {usual(), kegs(thick, thin, thin), list(0, 1), 2000 * 600}, {usual(), kegs(thin, a, thick), list(0, 1, 2), 2000 * 600}, {usual(), kegs(a, thin, thick), list(0, 1, 2), 2000 * 600}, {usual(), kegs(thin, dark, thick), list(0, 1, 2), 3000 * 500}, {usual(), kegs(thin, strong, thick), list(0, 2), 2000 * 600},
		{usual(), kegs(strong, b), list(0, 1), 1000 * 500}, {usual(), kegs(strong, strong), nil, 0}, {usual(), kegs(dark, dark, b), list(0, 1, 2), 2*1000*400 - 2000*100}, {usual(), kegs(dark, b), list(0, 1), 1000 * 500},
		{flat, kegs(a, b, c, thick, thin, strong, dark), nil, 0}, {dear, kegs(thick, thin), nil, 0}, {dear, kegs(a, dark), nil, 0}, {dear, kegs(a, strong), list(0, 1), 1000 * 100},
	} {
		sameBlend(t, x.l, x.k, x.want, x.gain, api.OK)
		if best, gain, _ := blendOf(x.l, x.k); fmt.Sprint(best, gain) != fmt.Sprint(x.want, x.gain) {
			t.Error("by the definitions:", x.k, best, gain)
		}
	}
}

// TestP8_9Great has the heaviest kegs, whose mixture is heavier than any keg, and the dearest prices.
func TestP8_9Great(t *testing.T) {
	l := rulesWith(func(l *api.GradeRules) { l.Price, l.Classes[0].Price = 0, 1000000 })
	sameBlend(t, l, append(times(6, keg(0, ton, 1000, 3)), times(6, keg(ton, 0, 1000, 3))...), list(0, 1, 2, 3, 4, 5, 6, 7, 8), 9*ton*1000000, api.OK)
	l.Density = r(5000, 5000)
	sameBlend(t, l, append(times(6, keg(0, ton, 1000, 3)), times(6, keg(ton, 0, 1000, 3))...), list(0, 1, 2, 3, 4, 5, 6, 7, 8, 9, 10, 11), 12*ton*1000000, api.OK)
	l.Density = r(0, 5000)
	sameBlend(t, l, kegs(keg(ton-1, 1, 0, 1), keg(0, ton, 1000, 9), keg(0, 1, 1000, 1)), nil, 0, api.OK)
	sameBlend(t, l, kegs(keg(1, 0, 1000, 3), keg(0, 1, 1000, 3)), list(0, 1), 1000000, api.OK)
}

func TestP8_9Errors(t *testing.T) {
	bad := rulesWith(func(l *api.GradeRules) { l.Bad = 21 })
	fine := keg(340, 660, 800, 2)
	sameBlend(t, bad, nil, nil, 0, api.ErrArg)
	sameBlend(t, bad, times(13, fine), nil, 0, api.ErrArg)
	sameBlend(t, usual(), times(13, fine), nil, 0, api.ErrLong)
	sameBlend(t, usual(), times(13, api.Keg{}), nil, 0, api.ErrLong)
	sameBlend(t, usual(), times(100000, fine), nil, 0, api.ErrLong)
	sameBlend(t, usual(), times(12, fine), nil, 0, api.OK)
	sameBlend(t, usual(), append(times(11, fine), keg(0, 0, 800, 2)), nil, 0, api.ErrArg)
	sameBlend(t, usual(), kegs(api.Keg{}), nil, 0, api.ErrArg)
}

// TestP8_9Definitions compares with all lists of kegs, of which many are worth the same.
func TestP8_9Definitions(t *testing.T) {
	d := dice()
	seen := map[string]int{}
	for range 3000 {
		l, k := kegRules(d), anyKegs(d, pick(d, 0, 7))
		best, gain, many := blendOf(l, k)
		sameBlend(t, l, k, best, gain, api.OK)
		switch {
		case gain == 0:
			seen["none"]++
			continue
		case len(best) == len(k):
			seen["all"]++
		case len(best) == 2:
			seen["two"]++
		default:
			seen["some"]++
		}
		if many > 1 {
			seen["several"]++
		}
	}
	for _, what := range []string{"none", "two", "some", "all", "several"} {
		if seen[what] < 100 {
			t.Error("too few:", what, seen[what])
		}
	}
	for range 5 {
		l, k := kegRules(d), anyKegs(d, 12)
		best, gain, _ := blendOf(l, k)
		sameBlend(t, l, k, best, gain, api.OK)
	}
}
