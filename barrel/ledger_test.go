package barrel_test

import (
	"fmt"
	"slices"
	"testing"

	"spile/api"
	"spile/barrel"
)

// TestP8_10Empty asks an empty ledger about numbers of things.
func TestP8_10Empty(t *testing.T) {
	l := barrel.NewLedger()
	if l == nil {
		t.Fatal("no ledger")
	}
	for _, n := range []int{low, -1, 0, 1, high} {
		sameLeft(t, l, n, 0, 0, api.ErrNone)
		sameTrace(t, l, n, nil, api.ErrNone)
		sameRecall(t, l, n, nil, api.ErrNone)
		sameAmount(t, l, n, n, api.Range{}, api.ErrNone)
		item, e := l.Make(takes(n, 1), 1)
		same(t, "Make of nothing", item, e, 0, api.ErrNone)
	}
	item, e := l.Gather(5)
	same(t, "Gather", item, e, 0, api.OK)
}

func TestP8_10Gather(t *testing.T) {
	l := barrel.NewLedger()
	n := 0
	for _, c := range []struct {
		mass int
		want api.Errno
	}{
		{1, api.OK}, {0, api.ErrRange}, {-1, api.ErrRange}, {ton, api.OK}, {ton + 1, api.ErrRange}, {low, api.ErrRange}, {high, api.ErrRange}, {1, api.OK}, {7, api.OK},
	} {
		item, e := l.Gather(c.mass)
		if c.want != api.OK {
			same(t, fmt.Sprint("Gather ", c.mass), item, e, 0, c.want)
			continue
		}
		same(t, fmt.Sprint("Gather ", c.mass), item, e, n, api.OK)
		sameLeft(t, l, n, c.mass, 0, api.OK)
		n++
	}
	sameLeft(t, l, n, 0, 0, api.ErrNone)
}

// makeCases are takes of a ledger with the things 0 of 100 grams, 1 of 50, 2 of 30, and 3, made of all of 2 and 40 of 0, of 60 grams.
func makeCases() []struct {
	takes []api.Take
	mass  int
	want  api.Errno
} {
	return []struct {
		takes []api.Take
		mass  int
		want  api.Errno
	}{
		{takes(0, 60), 60, api.OK}, {takes(0, 61), 60, api.ErrRange}, {takes(0, 60), 61, api.ErrRange}, {takes(0, 60), 1, api.OK}, {takes(0, 60), 0, api.ErrRange}, {takes(0, 60), -1, api.ErrRange}, {takes(0, 1), 1, api.OK}, {takes(0, 0), 1, api.ErrRange}, {takes(0, 0), 0, api.ErrRange}, {takes(0, -1), 1, api.ErrRange}, {takes(0, low), 1, api.ErrRange}, {takes(0, high), 1, api.ErrRange}, {takes(0, 5), low, api.ErrRange}, {takes(0, 5), high, api.ErrRange}, {takes(0, 5), ton + 1, api.ErrRange}, {takes(0, 100), 100, api.ErrRange},
		{takes(2, 1), 1, api.ErrRange}, {takes(2, 0), 0, api.ErrRange}, {takes(3, 60), 60, api.OK}, {takes(3, 61), 1, api.ErrRange}, {takes(1, 50), 50, api.OK}, {takes(1, 51), 1, api.ErrRange},
		{takes(4, 1), 1, api.ErrNone}, {takes(-1, 1), 1, api.ErrNone}, {takes(low, 1), 1, api.ErrNone}, {takes(high, 1), 1, api.ErrNone}, {takes(4, -1), -1, api.ErrNone},
		{takes(0, 60, 1, 50, 3, 60), 170, api.OK}, {takes(3, 60, 1, 50, 0, 60), 170, api.OK}, {takes(0, 60, 1, 50, 3, 60), 171, api.ErrRange}, {takes(0, 10, 1, 10), 20, api.OK}, {takes(1, 10, 0, 10), 21, api.ErrRange}, {takes(1, 10, 0, 10), 1, api.OK},
		{takes(0, 10, 0, 10), 20, api.ErrTwice}, {takes(0, 10, 1, 10, 0, 10), 20, api.ErrTwice}, {takes(0, 10, 0, -1), 0, api.ErrTwice}, {takes(0, 10, 0, 100), 20, api.ErrTwice}, {takes(0, -1, 0, 10), 9, api.ErrRange}, {takes(0, 61, 0, 10), 9, api.ErrRange}, {takes(4, 10, 4, 10), 20, api.ErrNone}, {takes(0, 10, 4, 10, 0, 10), 20, api.ErrNone}, {takes(0, 10, 0, 10, 4, 10), 20, api.ErrTwice}, {takes(0, 10, 2, 1, 0, 10), 20, api.ErrRange}, {takes(0, 10, 0, 10, 2, 1), 20, api.ErrTwice}, {takes(2, 1, 4, 1), 1, api.ErrRange}, {takes(4, 1, 2, 1), 1, api.ErrNone}, {takes(0, 10, 1, 51), 0, api.ErrRange}, {takes(-1, 0, 0, 0), 0, api.ErrNone},
		{nil, 1, api.ErrForm}, {takes(), 0, api.ErrForm}, {nil, -1, api.ErrForm}, {times(20, api.Take{From: 0, Mass: 1}), 1, api.ErrTwice}, {times(21, api.Take{From: 0, Mass: 1}), 1, api.ErrLong}, {times(21, api.Take{From: -1}), -1, api.ErrLong}, {times(20, api.Take{From: -1}), -1, api.ErrNone}, {times(100000, api.Take{}), 1, api.ErrLong},
	}
}

// TestP8_10Make also shows that what is refused changes nothing, and what is left of what is taken.
func TestP8_10Make(t *testing.T) {
	for _, c := range makeCases() {
		l := ledger(t, 100, 50, 30)
		add(t, l, 60, 2, 30, 0, 40)
		before := account(l, 4)
		left := list(60, 50, 0, 60)
		item, e := l.Make(c.takes, c.mass)
		if c.want != api.OK {
			same(t, fmt.Sprint("Make ", c), item, e, 0, c.want)
			if after := account(l, 4); after != before {
				t.Error("what is refused has changed something:", c, before, after)
			}
			sameLeft(t, l, 4, 0, 0, api.ErrNone)
			item, e = l.Gather(3)
			same(t, "Gather then", item, e, 4, api.OK)
			continue
		}
		same(t, fmt.Sprint("Make ", c), item, e, 4, api.OK)
		lost := -c.mass
		for _, x := range c.takes {
			left[x.From] -= x.Mass
			lost += x.Mass
		}
		sameLeft(t, l, 4, c.mass, lost, api.OK)
		for i, n := range left {
			sameLeft(t, l, i, n, []int{0, 0, 0, 10}[i], api.OK)
		}
		again, e := l.Make(takes(4, c.mass+1), 1)
		same(t, "Make of more than there is", again, e, 0, api.ErrRange)
		again, e = l.Make(takes(4, c.mass), 1)
		same(t, "Make of what was made", again, e, 5, api.OK)
	}
}

// TestP8_10Takes has as many takes as there can be, one more, and as many grams.
func TestP8_10Takes(t *testing.T) {
	l := ledger(t, times(21, ton)...)
	var all []api.Take
	for i := range 21 {
		all = append(all, api.Take{From: i, Mass: ton})
	}
	for _, c := range []struct {
		takes []api.Take
		mass  int
		want  api.Errno
	}{{all, 1, api.ErrLong}, {all[:20], 0, api.ErrRange}, {all[:20], ton + 1, api.ErrRange}, {all[:20], 20 * ton, api.ErrRange}, {all[:20], ton, api.OK}} {
		item, e := l.Make(c.takes, c.mass)
		want := 0
		if c.want == api.OK {
			want = 21
		}
		same(t, fmt.Sprint("Make ", len(c.takes), c.mass), item, e, want, c.want)
	}
	sameLeft(t, l, 21, ton, 19*ton, api.OK)
	sameLeft(t, l, 19, 0, 0, api.OK)
	sameLeft(t, l, 20, ton, 0, api.OK)
	for bush := range 20 {
		sameAmount(t, l, 21, bush, r(0, ton), api.OK)
	}
	sameAmount(t, l, 21, 20, one(0), api.OK)
}

// TestP8_10Full has as many things as there can be.
func TestP8_10Full(t *testing.T) {
	l := barrel.NewLedger()
	for n := range api.MaxItems {
		var item int
		var e api.Errno
		if n%2 == 0 {
			item, e = l.Gather(10)
		} else {
			item, e = l.Make(takes(n-1, 5), 5)
		}
		if item != n || e != api.OK {
			t.Fatal("the thing", n, item, e)
		}
	}
	before := account(l, api.MaxItems)
	for _, m := range []int{1, 0, -1, ton + 1} {
		item, e := l.Gather(m)
		same(t, "Gather into a full ledger", item, e, 0, api.ErrFull)
		for _, x := range [][]api.Take{takes(0, 1), takes(0, 100), takes(0, 1, 0, 1), takes(200, 1), nil, times(21, api.Take{})} {
			item, e := l.Make(x, m)
			same(t, "Make into a full ledger", item, e, 0, api.ErrFull)
		}
	}
	if after := account(l, api.MaxItems); after != before {
		t.Error("a full ledger has changed")
	}
	sameLeft(t, l, 199, 5, 0, api.OK)
	sameLeft(t, l, 200, 0, 0, api.ErrNone)
	sameTrace(t, l, 199, list(198), api.OK)
	sameRecall(t, l, 198, list(198, 199), api.OK)
	sameAmount(t, l, 199, 198, one(5), api.OK)
}

// TestP8_11Left takes of one thing until nothing is left.
func TestP8_11Left(t *testing.T) {
	l := ledger(t, 10, 8)
	sameLeft(t, l, 0, 10, 0, api.OK)
	add(t, l, 2, 0, 3)
	sameLeft(t, l, 0, 7, 0, api.OK)
	sameLeft(t, l, 2, 2, 1, api.OK)
	add(t, l, 8, 0, 6, 2, 2)
	sameLeft(t, l, 0, 1, 0, api.OK)
	sameLeft(t, l, 2, 0, 1, api.OK)
	sameLeft(t, l, 3, 8, 0, api.OK)
	add(t, l, 1, 1, 8, 0, 1, 3, 8)
	sameLeft(t, l, 0, 0, 0, api.OK)
	sameLeft(t, l, 1, 0, 0, api.OK)
	sameLeft(t, l, 3, 0, 0, api.OK)
	sameLeft(t, l, 4, 1, 16, api.OK)
	for _, n := range []int{5, -1, low, high} {
		sameLeft(t, l, n, 0, 0, api.ErrNone)
	}
}

// jars returns a ledger in which bushes come by several ways: 0 to 2 and 5 are bushes, 3 is made of 1 and 0, 4 of 2 and 3, 6 of 3, 4 and 1, and 7 of 5.
func jars(t *testing.T) *barrel.Ledger {
	l := ledger(t, 100, 100, 100)
	add(t, l, 50, 1, 30, 0, 30)
	add(t, l, 30, 2, 20, 3, 20)
	if n, e := l.Gather(100); n != 5 || e != api.OK {
		t.Fatal("Gather", n, e)
	}
	add(t, l, 40, 3, 20, 4, 20, 1, 10)
	add(t, l, 100, 5, 100)
	return l
}

func TestP8_12TraceAndRecall(t *testing.T) {
	l := jars(t)
	for item, want := range [][]int{{0}, {1}, {2}, {0, 1}, {0, 1, 2}, {5}, {0, 1, 2}, {5}} {
		sameTrace(t, l, item, want, api.OK)
	}
	for bush, want := range map[int][]int{0: {0, 3, 4, 6}, 1: {1, 3, 4, 6}, 2: {2, 4, 6}, 5: {5, 7}} {
		sameRecall(t, l, bush, want, api.OK)
	}
	for _, item := range []int{3, 4, 6, 7} {
		sameRecall(t, l, item, nil, api.ErrArg)
	}
	for _, n := range []int{8, -1, low, high} {
		sameTrace(t, l, n, nil, api.ErrNone)
		sameRecall(t, l, n, nil, api.ErrNone)
	}
}

func TestP8_13Amount(t *testing.T) {
	l := jars(t)
	for _, c := range []struct {
		item, bush int
		want       api.Range
		e          api.Errno
	}{
		{0, 0, one(100), api.OK}, {1, 1, one(100), api.OK}, {5, 5, one(100), api.OK}, {0, 1, one(0), api.OK}, {1, 0, one(0), api.OK}, {0, 5, one(0), api.OK}, {5, 0, one(0), api.OK},
		{3, 0, r(20, 30), api.OK}, {3, 1, r(20, 30), api.OK}, {3, 2, one(0), api.OK}, {3, 5, one(0), api.OK},
		{4, 2, r(10, 20), api.OK}, {4, 0, r(0, 20), api.OK}, {4, 1, r(0, 20), api.OK},
		{6, 1, r(0, 40), api.OK}, {6, 0, r(0, 40), api.OK}, {6, 2, r(0, 20), api.OK}, {6, 5, one(0), api.OK}, {7, 5, one(100), api.OK}, {7, 0, one(0), api.OK},
		{0, 3, api.Range{}, api.ErrArg}, {3, 3, api.Range{}, api.ErrArg}, {7, 6, api.Range{}, api.ErrArg}, {8, 0, api.Range{}, api.ErrNone}, {0, 8, api.Range{}, api.ErrNone}, {8, 3, api.Range{}, api.ErrNone}, {-1, 3, api.Range{}, api.ErrNone}, {3, -1, api.Range{}, api.ErrNone}, {-1, -1, api.Range{}, api.ErrNone}, {low, high, api.Range{}, api.ErrNone}, {high, 0, api.Range{}, api.ErrNone},
	} {
		sameAmount(t, l, c.item, c.bush, c.want, c.e)
	}
}

// TestP8_13Taken takes each number of grams of a thing of 10 grams of which 4 to 7 come from a bush, and loses each number of them.
func TestP8_13Taken(t *testing.T) {
	for taken := 1; taken <= 10; taken++ {
		for left := 1; left <= taken; left++ {
			l := ledger(t, 7, 6)
			add(t, l, 10, 0, 7, 1, 6)
			sameAmount(t, l, 2, 0, r(4, 7), api.OK)
			add(t, l, left, 2, taken)
			least := max(0, 4-(10-taken))
			sameAmount(t, l, 3, 0, r(max(0, least-(taken-left)), min(7, taken, left)), api.OK)
			sameAmount(t, l, 3, 1, r(max(0, max(0, 3-(10-taken))-(taken-left)), min(6, taken, left)), api.OK)
		}
	}
}

// TestP8_13Later shows that what is taken of a thing later does not change what is in it, nor what was made of it.
func TestP8_13Later(t *testing.T) {
	l := ledger(t, 10, 10)
	add(t, l, 20, 0, 10, 1, 10)
	add(t, l, 15, 2, 15)
	sameAmount(t, l, 3, 0, r(5, 10), api.OK)
	add(t, l, 5, 2, 5)
	sameAmount(t, l, 2, 0, one(10), api.OK)
	sameAmount(t, l, 3, 0, r(5, 10), api.OK)
	sameAmount(t, l, 4, 0, r(0, 5), api.OK)
	add(t, l, 20, 3, 15, 4, 5)
	sameAmount(t, l, 5, 0, r(5, 15), api.OK)
}

// TestP8_13ManyWays has a ledger in which there are more ways to a bush than can be gone; it ends soon.
func TestP8_13ManyWays(t *testing.T) {
	l := ledger(t, ton)
	grams := ton
	for n := 1; n < api.MaxItems; n++ {
		var all []api.Take
		for from := n - 1; from >= max(0, n-20); from-- {
			all = append(all, api.Take{From: from, Mass: 1})
		}
		all[0].Mass = grams - 1000
		grams = all[0].Mass + len(all) - 1
		item, e := l.Make(all, grams)
		if item != n || e != api.OK {
			t.Fatal("Make", all, item, e)
		}
	}
	for n := range api.MaxItems {
		sameTrace(t, l, n, list(0), api.OK)
		amount, e := l.Amount(n, 0)
		left, lost, f := l.Left(n)
		if amount.Low != amount.High || amount.High < left || lost != 0 || e != api.OK || f != api.OK {
			t.Fatal("all of it is of one bush:", n, amount, left, lost, e, f)
		}
	}
	items, e := l.Recall(0)
	if len(items) != api.MaxItems || !slices.IsSorted(items) || e != api.OK {
		t.Error("Recall", items, e)
	}
}

// TestP8_10To13Definitions does the same to ledgers and to stores, and shows that what is refused changes nothing.
func TestP8_10To13Definitions(t *testing.T) {
	d := dice()
	seen := map[string]int{}
	for range 300 {
		l, k := barrel.NewLedger(), &store{}
		var done []string
		before := account(l, 0)
		for range pick(d, 1, 25) {
			x := anyStep(d, k)
			got, e := x.do(l)
			want, wantErr := x.do(k)
			done = append(done, fmt.Sprint(x, want, wantErr))
			after := account(l, len(k.masses))
			if got != want || e != wantErr || after != account(k, len(k.masses)) {
				t.Fatal(done, "not", got, e, after)
			}
			if e != api.OK && after != before {
				t.Fatal("what is refused has changed something:", done, before, after)
			}
			before = after
			seen[fmt.Sprint(x.make, e)]++
		}
	}
	for _, what := range []string{"false 0", "false 3", "true 0", "true 3", "true 4", "true 6", "true 7"} {
		if seen[what] < 20 {
			t.Error("too few:", what, seen[what])
		}
	}
}

func TestR3NoLedger(t *testing.T) {
	var l *barrel.Ledger
	for _, n := range []int{low, -1, 0, 1, ton, high} {
		item, e := l.Gather(n)
		same(t, "Gather", item, e, 0, api.ErrNil)
		item, e = l.Make(takes(n, n), n)
		same(t, "Make", item, e, 0, api.ErrNil)
		item, e = l.Make(times(21, api.Take{}), n)
		same(t, "Make", item, e, 0, api.ErrNil)
		sameLeft(t, l, n, 0, 0, api.ErrNil)
		sameTrace(t, l, n, nil, api.ErrNil)
		sameRecall(t, l, n, nil, api.ErrNil)
		sameAmount(t, l, n, n, api.Range{}, api.ErrNil)
	}
}
