package season_test

import (
	"fmt"
	"slices"
	"testing"

	"spile/api"
	"spile/season"
)

// allWood is the greatest wood that can be asked for.
const allWood = api.MaxStems * api.MaxStem

// standChecks returns the errors of all functions with a stand, and of those with wood.
func standChecks(s api.Stand, wood int) map[string]api.Errno {
	l := map[string]api.Errno{}
	_, _, l["Thin"] = season.Thin(s, wood)
	_, l["Bound"] = season.Bound(s, wood, part(1, 2))
	_, _, l["Price"] = season.Price(s, wood)
	return l
}

// standCases are stands at the bounds of each field, and one step beyond them.
func standCases() []struct {
	s    api.Stand
	want api.Errno
} {
	fine := tree(3, 4)
	two := stems(fine, fine)
	first := func(x api.Stem) api.Stand { return stand(stems(x, fine)) }
	last := func(x api.Stem) api.Stand { return stand(stems(fine, fine, x)) }
	pairs := func(n int) api.Stand { return api.Stand{Stems: two, Beside: times(n, [2]int{0, 1})} }
	return []struct {
		s    api.Stand
		want api.Errno
	}{
		{usualStand(), api.OK}, {api.Stand{}, api.OK}, {stand(stems(fine)), api.OK}, {stand(times(20, fine)), api.OK}, {stand(times(21, fine)), api.ErrArg}, {stand(times(100000, fine)), api.ErrArg},
		{first(api.Stem{Wood: 1}), api.OK}, {first(api.Stem{}), api.ErrArg}, {first(tree(0, 1)), api.ErrArg}, {first(tree(-1, 1)), api.ErrArg}, {first(tree(1000000, 1)), api.OK}, {first(tree(1000001, 1)), api.ErrArg}, {first(tree(low, 1)), api.ErrArg}, {first(tree(high, 1)), api.ErrArg}, {last(tree(0, 1)), api.ErrArg}, {last(tree(1000001, 1)), api.ErrArg},
		{first(tree(1, 0)), api.OK}, {first(tree(1, -1)), api.ErrArg}, {first(tree(1, 1000000)), api.OK}, {first(tree(1, 1000001)), api.ErrArg}, {first(tree(1, low)), api.ErrArg}, {first(tree(1, high)), api.ErrArg}, {last(tree(1, -1)), api.ErrArg}, {last(tree(1, 1000001)), api.ErrArg},
		{first(api.Stem{Wood: 1, Carbon: 1000000}), api.OK}, {first(api.Stem{Wood: 1, Carbon: 1000001}), api.ErrArg}, {first(api.Stem{Wood: 1, Carbon: -1}), api.ErrArg}, {last(api.Stem{Wood: 1, Carbon: low}), api.ErrArg}, {last(api.Stem{Wood: 1, Carbon: high}), api.ErrArg},
		{stand(two, 0, 1), api.OK}, {stand(two, 1, 0), api.OK}, {stand(two, 0, 1, 1, 0), api.OK}, {stand(two, 0, 1, 0, 1), api.OK}, {stand(two, 0, 0), api.ErrArg}, {stand(two, 1, 1), api.ErrArg}, {stand(two, 0, 1, 1, 1), api.ErrArg}, {stand(two, 0, 2), api.ErrArg}, {stand(two, 2, 0), api.ErrArg}, {stand(two, 2, 2), api.ErrArg}, {stand(two, -1, 0), api.ErrArg}, {stand(two, 0, -1), api.ErrArg}, {stand(two, low, 0), api.ErrArg}, {stand(two, 0, high), api.ErrArg}, {stand(two, 0, 64), api.ErrArg}, {stand(nil, 0, 1), api.ErrArg}, {stand(nil, 0, 0), api.ErrArg}, {stand(times(20, fine), 0, 19), api.OK}, {stand(times(20, fine), 0, 20), api.ErrArg},
		{pairs(60), api.OK}, {pairs(61), api.ErrArg}, {pairs(100000), api.ErrArg},
	}
}

func TestP9_7Check(t *testing.T) {
	for _, c := range standCases() {
		what := fmt.Sprint(len(c.s.Stems), " trees, ", len(c.s.Beside), " pairs: ", c.s)
		if len(what) > 500 {
			what = what[:500]
		}
		for name, e := range standChecks(c.s, 8) {
			sameErr(t, name+" "+what, e, c.want)
		}
		_, _, _, e := season.Carbon(c.s, nil, 1, part(0, 1), part(0, 1))
		sameErr(t, "Carbon "+what, e, c.want)
	}
	for _, c := range []struct {
		wood int
		want api.Errno
	}{{0, api.OK}, {-1, api.ErrRange}, {allWood, api.OK}, {allWood + 1, api.ErrRange}, {low, api.ErrRange}, {high, api.ErrRange}} {
		for _, s := range []api.Stand{usualStand(), {}} {
			for name, e := range standChecks(s, c.wood) {
				sameErr(t, fmt.Sprint(name, " ", c.wood), e, c.want)
			}
		}
		for name, e := range standChecks(stand(stems(tree(0, 0))), c.wood) {
			sameErr(t, fmt.Sprint("a bad stand: ", name, " ", c.wood), e, api.ErrArg)
		}
	}
	sameThin(t, usualStand(), -1, nil, 0, api.ErrRange)
	sameThin(t, stand(stems(tree(0, 1))), 8, nil, 0, api.ErrArg)
	samePrice(t, usualStand(), -1, api.Part{}, 0, api.ErrRange)
	samePrice(t, stand(stems(tree(0, 1))), 8, api.Part{}, 0, api.ErrArg)
}

func TestP9_7Thin(t *testing.T) {
	a := tree(2, 3)
	great := tree(1000000, 1000000)
	for _, c := range []struct {
		s     api.Stand
		wood  int
		want  []int
		worth int
	}{
		{usualStand(), 8, list(0, 2), 10}, {usualStand(), 7, list(0, 1), 9}, {usualStand(), 9, list(1, 2), 11}, {usualStand(), 11, list(1, 2), 11}, {usualStand(), 12, list(0, 1, 2), 15}, {usualStand(), 6, list(2), 6}, {usualStand(), 5, list(2), 6}, {usualStand(), 4, list(1), 5}, {usualStand(), 3, list(0), 4}, {usualStand(), 2, nil, 0}, {usualStand(), 0, nil, 0}, {usualStand(), allWood, list(0, 1, 2), 15},
		{stand(usualStand().Stems, 0, 2), 8, list(0, 1), 9}, {stand(usualStand().Stems, 2, 0), 8, list(0, 1), 9}, {stand(usualStand().Stems, 0, 2, 0, 2, 2, 0), 8, list(0, 1), 9}, {stand(usualStand().Stems, 0, 2, 0, 1), 8, list(2), 6}, {stand(usualStand().Stems, 0, 1), 12, list(1, 2), 11}, {stand(usualStand().Stems, 0, 1, 1, 2, 2, 0), allWood, list(2), 6},
		{api.Stand{}, 0, nil, 0}, {api.Stand{}, allWood, nil, 0}, {stand(stems(tree(1, 1))), 1, list(0), 1}, {stand(stems(tree(1, 1))), 0, nil, 0}, {stand(stems(tree(1, 0))), 9, nil, 0}, {stand(stems(tree(1000000, 1))), 999999, nil, 0}, {stand(stems(tree(1000000, 1))), 1000000, list(0), 1},
		{stand(stems(a, a, a)), 4, list(0, 1), 6}, {stand(stems(a, a, a)), 3, list(0), 3}, {stand(stems(a, a, a), 0, 1), 4, list(0, 2), 6}, {stand(stems(a, a, a), 0, 1, 0, 2), 4, list(1, 2), 6}, {stand(stems(tree(2, 3), tree(4, 6), tree(2, 3)), 0, 2), 4, list(1), 6}, {stand(stems(tree(4, 6), tree(2, 3), tree(2, 3))), 4, list(0), 6}, {stand(stems(tree(2, 3), tree(4, 6), tree(2, 3))), 4, list(0, 2), 6}, {stand(stems(tree(1, 1), tree(1, 2), tree(1, 3), tree(3, 3))), 3, list(0, 1, 2), 6},
		{stand(stems(tree(1, 0), a)), 3, list(0, 1), 3}, {stand(stems(tree(1, 0), a)), 2, list(1), 3}, {stand(stems(a, tree(1, 0))), 3, list(0), 3}, {stand(stems(tree(1, 0), a), 0, 1), 3, list(1), 3}, {stand(stems(tree(1, 0), tree(1, 0), a, tree(1, 0))), 3, list(0, 2), 3}, {stand(stems(tree(1, 0), tree(1, 0), a, tree(1, 0))), 9, list(0, 1, 2), 3}, {stand(times(20, tree(1, 0))), 20, nil, 0},
		{stand(times(20, great)), allWood, list(0, 1, 2, 3, 4, 5, 6, 7, 8, 9, 10, 11, 12, 13, 14, 15, 16, 17, 18, 19), 20000000}, {stand(times(20, great)), allWood - 1, list(0, 1, 2, 3, 4, 5, 6, 7, 8, 9, 10, 11, 12, 13, 14, 15, 16, 17, 18), 19000000}, {stand(times(20, great)), 999999, nil, 0}, {stand(times(20, great), 0, 19), allWood, list(0, 1, 2, 3, 4, 5, 6, 7, 8, 9, 10, 11, 12, 13, 14, 15, 16, 17, 18), 19000000},
	} {
		sameThin(t, c.s, c.wood, c.want, c.worth, api.OK)
		if len(c.s.Stems) > 10 {
			continue
		}
		if cut, worth, _ := thinOf(c.s, c.wood); !slices.Equal(cut, c.want) || worth != c.worth {
			t.Error("by the definitions:", c.s, c.wood, cut, worth)
		}
	}
}

// TestP9_7AllLists compares with all lists of trees, of which many are worth the same.
func TestP9_7AllLists(t *testing.T) {
	d := dice()
	seen := map[string]int{}
	for range 3000 {
		s := anyStand(d, pick(d, 0, 9))
		wood := pick(d, 0, pick(d, 1, 40))
		cut, worth, many := thinOf(s, wood)
		sameThin(t, s, wood, cut, worth, api.OK)
		if many > 1 {
			seen["several"]++
		}
		if len(s.Beside) > 0 {
			seen["pairs"]++
		}
		if slices.ContainsFunc(cut, func(i int) bool { return s.Stems[i].Worth == 0 }) {
			seen["worth nothing"]++
		}
	}
	for _, what := range []string{"several", "pairs", "worth nothing"} {
		if seen[what] < 300 {
			t.Error("too few:", what, seen[what])
		}
	}
}

// bitsOf returns what Thin must return for a stand with many trees, by all sets of them as bits.
func bitsOf(s api.Stand, wood int) (cut []int, worth int) {
	n := len(s.Stems)
	woods, worths := make([]int, 1<<n), make([]int, 1<<n)
	for set := 1; set < 1<<n; set++ {
		last := 0
		for set>>last > 1 {
			last++
		}
		rest := set &^ (1 << last)
		woods[set], worths[set] = woods[rest]+s.Stems[last].Wood, worths[rest]+s.Stems[last].Worth
		for _, pair := range s.Beside {
			if set>>pair[0]&1 == 1 && set>>pair[1]&1 == 1 {
				woods[set] = allWood + 1
			}
		}
		if woods[set] <= wood {
			worth = max(worth, worths[set])
		}
	}
	first := true
	for set := range 1 << n {
		if woods[set] > wood || worths[set] != worth {
			continue
		}
		var l []int
		for i := range n {
			if set>>i&1 == 1 {
				l = append(l, i)
			}
		}
		if first || slices.Compare(l, cut) < 0 {
			cut, first = l, false
		}
	}
	return cut, worth
}

// TestP9_7ManyTrees compares with all sets of many trees.
func TestP9_7ManyTrees(t *testing.T) {
	d := dice()
	try := func(n, most, pairs int) {
		var s api.Stand
		for range n {
			wood := pick(d, 1, most)
			s.Stems = append(s.Stems, tree(wood, min(api.MaxStem, wood+pick(d, 0, most/10+1))))
		}
		for range pairs {
			a := d.IntN(n)
			s.Beside = append(s.Beside, [2]int{a, (a + pick(d, 1, n-1)) % n})
		}
		wood := pick(d, 0, n*most/2)
		cut, worth := bitsOf(s, wood)
		sameThin(t, s, wood, cut, worth, api.OK)
	}
	for range 20 {
		try(14, pick(d, 1, 1000000), pick(d, 0, 60))
	}
	try(20, 1000000, 0)
	try(20, 1000, 60)
	try(20, 3, 10)
}

// TestP9_7Hard has trees of which no bound can tell soon which ones are best: it ends all the same.
func TestP9_7Hard(t *testing.T) {
	var s api.Stand
	for i := range 20 {
		s.Stems = append(s.Stems, tree(2*(i+500), 2*(i+500)))
	}
	wood := 0
	for _, x := range s.Stems {
		wood += x.Wood
	}
	cut, worth, e := season.Thin(s, wood/4*2+1)
	if truly, ok := allowed(s, wood/4*2+1, cut); truly != worth || !ok || e != api.OK {
		t.Error("Thin", cut, worth, e)
	}
	for i := range s.Stems {
		s.Stems[i] = tree(2, 2)
	}
	sameThin(t, s, 21, list(0, 1, 2, 3, 4, 5, 6, 7, 8, 9), 20, api.OK)
}

func TestP9_8Bound(t *testing.T) {
	great := stand(times(20, tree(1000000, 1000000)))
	light := stand(times(20, tree(1, 1000000)))
	for _, c := range []struct {
		s     api.Stand
		wood  int
		price api.Part
		want  int
		e     api.Errno
	}{
		{usualStand(), 8, part(6, 5), 10, api.OK}, {usualStand(), 8, part(0, 1), 15, api.OK}, {usualStand(), 0, part(0, 1), 15, api.OK}, {usualStand(), 8, part(4, 3), 10, api.OK}, {usualStand(), 8, part(5, 4), 10, api.OK}, {usualStand(), 8, part(1, 1), 11, api.OK}, {usualStand(), 8, part(2, 1), 16, api.OK}, {usualStand(), 7, part(4, 3), 9, api.OK}, {usualStand(), 2, part(4, 3), 2, api.OK}, {usualStand(), 0, part(4, 3), 0, api.OK}, {usualStand(), 0, part(1, 1000000000), 14, api.OK}, {usualStand(), 1, part(1, 2), 9, api.OK}, {usualStand(), 2, part(1, 2), 10, api.OK},
		{api.Stand{}, 0, part(0, 1), 0, api.OK}, {api.Stand{}, 3, part(1, 2), 1, api.OK}, {api.Stand{}, 3, part(2, 3), 2, api.OK}, {api.Stand{}, 3, part(999999999, 1000000000), 2, api.OK}, {api.Stand{}, allWood, part(1000000000, 1), allWood * 1000000000, api.OK}, {great, allWood, part(1000000000, 1), allWood * 1000000000, api.OK}, {great, allWood, part(0, 1), 20000000, api.OK}, {great, allWood, part(1, 1), 20000000, api.OK}, {great, allWood, part(1, 1000000000), 20000000, api.OK}, {great, 0, part(1, 1000000000), 19999999, api.OK}, {great, allWood, part(999999999, 1000000000), 20000000, api.OK}, {light, 20, part(999999, 1), 20000000, api.OK}, {light, 19, part(999999, 1), 19000001, api.OK}, {light, allWood, part(1, 1000000000), 20000000, api.OK}, {light, allWood, part(1000000000, 999999999), 20000000 + 19999980, api.OK},
		{usualStand(), 8, part(-1, 1), 0, api.ErrArg}, {usualStand(), 8, part(-1, 1000000000), 0, api.ErrArg}, {usualStand(), 8, part(2, 4), 0, api.ErrArg}, {usualStand(), 8, part(0, 2), 0, api.ErrArg}, {usualStand(), 8, part(12, 10), 0, api.ErrArg}, {usualStand(), 8, part(1, 0), 0, api.ErrArg}, {usualStand(), 8, part(0, 0), 0, api.ErrArg}, {usualStand(), 8, part(1, -1), 0, api.ErrArg}, {usualStand(), 8, part(-1, -1), 0, api.ErrArg}, {usualStand(), 8, part(0, -1), 0, api.ErrArg}, {usualStand(), 8, part(1000000001, 1), 0, api.ErrArg}, {usualStand(), 8, part(1, 1000000001), 0, api.ErrArg}, {usualStand(), 8, part(high, 1), 0, api.ErrArg}, {usualStand(), 8, part(1, high), 0, api.ErrArg}, {usualStand(), 8, part(low, 1), 0, api.ErrArg}, {usualStand(), 8, part(1, low), 0, api.ErrArg},
		{usualStand(), -1, part(-1, 1), 0, api.ErrRange}, {usualStand(), allWood + 1, part(1, 0), 0, api.ErrRange}, {stand(stems(tree(0, 0))), -1, part(-1, 1), 0, api.ErrArg}, {stand(stems(tree(0, 0))), 8, part(1, 2), 0, api.ErrArg}, {usualStand(), -1, part(1, 2), 0, api.ErrRange},
	} {
		sameBound(t, c.s, c.wood, c.price, c.want, c.e)
		if c.e == api.OK && boundOf(c.s, c.wood, c.price) != c.want {
			t.Error("by the definition:", c.s, c.wood, c.price, boundOf(c.s, c.wood, c.price))
		}
	}
}

func TestP9_8Price(t *testing.T) {
	for _, c := range []struct {
		s     api.Stand
		wood  int
		price api.Part
		bound int
	}{
		{usualStand(), 8, part(6, 5), 10}, {usualStand(), 12, part(0, 1), 15}, {usualStand(), 20, part(0, 1), 15}, {usualStand(), 7, part(6, 5), 9}, {usualStand(), 2, part(5, 4), 2}, {usualStand(), 1, part(6, 5), 1}, {usualStand(), 11, part(6, 5), 13},
		// Before it is rounded, the bound of a higher price is less: with no wood that of 4 / 3 is 0, with 3 of wood that of 5 / 4 is 4.
		{usualStand(), 0, part(6, 5), 0}, {usualStand(), 3, part(6, 5), 4},
		{api.Stand{}, 0, part(0, 1), 0}, {api.Stand{}, allWood, part(0, 1), 0}, {stand(times(20, tree(1, 0))), 5, part(0, 1), 0}, {stand(stems(tree(4, 6))), 0, part(3, 2), 0}, {stand(stems(tree(4, 6))), 3, part(3, 2), 4}, {stand(stems(tree(4, 6))), 4, part(0, 1), 6}, {stand(stems(tree(1000000, 1000000))), 999999, part(1, 1), 999999}, {stand(stems(tree(1000000, 1))), 0, part(1, 1000000), 0}, {stand(stems(tree(1000000, 1))), 999999, part(1, 1000000), 0}, {stand(stems(tree(1, 1000000))), 0, part(1000000, 1), 0},
		{stand(stems(tree(2, 3), tree(1, 1))), 0, part(3, 2), 0}, {stand(stems(tree(2, 3), tree(2, 2))), 1, part(3, 2), 1}, {stand(stems(tree(3, 4), tree(3, 4), tree(3, 3))), 5, part(4, 3), 6}, {stand(stems(tree(2, 2), tree(2, 3))), 3, part(1, 1), 4}, {stand(stems(tree(2, 3), tree(4, 6), tree(6, 9))), 7, part(3, 2), 10},
	} {
		samePrice(t, c.s, c.wood, c.price, c.bound, api.OK)
		if price, bound := priceOf(c.s, c.wood); price != c.price || bound != c.bound {
			t.Error("by the definition:", c.s, c.wood, price, bound)
		}
	}
}

// TestP9_8Definitions compares any bounds, and the price with the least one: of several the lowest price, even if its bound is greater before it is rounded.
func TestP9_8Definitions(t *testing.T) {
	d := dice()
	seen := map[string]int{}
	for range 6000 {
		s := anyStand(d, pick(d, 0, 8))
		wood := pick(d, 0, 30)
		price, bound := priceOf(s, wood)
		samePrice(t, s, wood, price, bound, api.OK)
		exact := exactOf(s, wood, price)
		for _, p := range pricesOf(s) {
			sameBound(t, s, wood, p, boundOf(s, wood, p), api.OK)
			if p != price && boundOf(s, wood, p) == bound {
				seen["same bound"]++
				if exactOf(s, wood, p).Cmp(exact) < 0 {
					seen["less before it is rounded"]++
				}
			}
		}
		other := lowestTerms(pick(d, 0, 30), pick(d, 1, 30))
		sameBound(t, s, wood, other, boundOf(s, wood, other), api.OK)
		if !exact.IsInt() {
			seen["rounded"]++
		}
	}
	for _, what := range []string{"same bound", "less before it is rounded", "rounded"} {
		if seen[what] < 300 {
			t.Error("too few:", what, seen[what])
		}
	}
	for range 300 {
		var s api.Stand
		for range 20 {
			s.Stems = append(s.Stems, tree(pick(d, 1, 1000000), pick(d, 0, 1000000)))
		}
		wood := pick(d, 0, allWood)
		price, bound := priceOf(s, wood)
		samePrice(t, s, wood, price, bound, api.OK)
		other := lowestTerms(pick(d, 0, 1000000000), pick(d, 1, 1000000000))
		sameBound(t, s, wood, other, boundOf(s, wood, other), api.OK)
	}
}
