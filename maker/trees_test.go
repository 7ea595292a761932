package maker_test

import (
	"fmt"
	"strings"
	"testing"

	"spile/api"
	"spile/maker"
	"spile/trunk"
)

const (
	oldTree = "tree old 20 1200..1260 5..10 3"
	rules   = "taprules 30..60 200..300 3..8 400 600..1600 800:1,1500:2 2,2,2,2,2 5"

	// With these rules a tree may have 20 taps of a year, and as many years later.
	manyTaps = "taprules 1..1 1..1 100..100 1 0..5000 1:20 20,20,20,20,20 60"
)

// TestP13_1TapRules shows that the rules are set once, and their errors in their order.
func TestP13_1TapRules(t *testing.T) {
	told(t, maker.New(), `
		taprules 30..60 200..300 3..8 400 600..1600 800:1,1500:2 2,2,2,2 5 => ErrForm
		taprules 30..60 200..300 3..8 400 600..1600 800:1,1500:2 2,2,2,2,2,2 5 => ErrForm
		taprules 30..60 200..300 3..8 400 600..1600 800:1,1500:2 - 5 => ErrForm
		taprules 60..30 200..300 3..8 400 600..1600 800:1,1500:2 2,2,2,2 5 => ErrForm
		taprules 60..30 200..300 3..8 400 600..1600 800:1,1500:2 2,2,2,2,2 5 => ErrArg
		taprules 30..60 200..5001 3..8 400 600..1600 800:1,1500:2 2,2,2,2,2 5 => ErrArg
		taprules 30..60 200..300 -1..8 400 600..1600 800:1,1500:2 2,2,2,2,2 5 => ErrArg
		taprules 30..60 200..300 3..8 0 600..1600 800:1,1500:2 2,2,2,2,2 5 => ErrArg
		taprules 30..60 200..300 3..8 400 600..5001 800:1,1500:2 2,2,2,2,2 5 => ErrArg
		taprules 30..60 200..300 3..8 400 600..1600 1500:2,800:1 2,2,2,2,2 5 => ErrArg
		taprules 30..60 200..300 3..8 400 600..1600 800:21 2,2,2,2,2 5 => ErrArg
		taprules 30..60 200..300 3..8 400 600..1600 800:1,1500:2 2,2,2,2,21 5 => ErrArg
		taprules 30..60 200..300 3..8 400 600..1600 800:1,1500:2 2,2,2,2,2 61 => ErrArg
		tree old 20 1200..1260 5..10 3 => ok
		taps old 24 => ErrState
		taprules 30..60 200..300 3..8 400 600..1600 800:1,1500:2 2,2,2,2,2 5 => ok
		taprules 30..60 200..300 3..8 400 600..1600 800:1,1500:2 2,2,2,2,2 5 => ErrState
		taprules 60..30 200..300 3..8 400 600..1600 800:1,1500:2 2,2,2,2 5 => ErrState
		taprules 30..60 200..300 3..8 400 600..1600 800:1,1500:2 2,2,2,2,x 5 => ErrForm
		taps old 24 => 1..1
	`)
	// Each health has its own taps, and no sizes are sizes as well.
	m := after(t, "taprules 30..60 200..300 3..8 400 600..1600 1:20 0,1,2,3,4 60")
	for health := range 5 {
		told(t, m, fmt.Sprintf("tree %c 20 1200..1260 5..10 %d => ok\ntaps %c 24 => %d..%d", 'a'+health, health, 'a'+health, health, health))
	}
	told(t, after(t, oldTree), `
		taprules 30..60 200..300 3..8 400 600..1600 - 2,2,2,2,2 5 => ok
		taps old 24 => 0..0
	`)
}

// TestP13_1Trees shows names of trees, their holes, and the errors of trunk.CheckTree.
func TestP13_1Trees(t *testing.T) {
	told(t, maker.New(), `
		hole old 20 0 1000 => ErrNone
		tree old -1 1200..1260 5..10 3 => ErrArg
		tree old 10000 1200..1260 5..10 3 => ErrArg
		tree old 20 1260..1200 5..10 3 => ErrArg
		tree old 20 0..1260 5..10 3 => ErrArg
		tree old 20 1200..10001 5..10 3 => ErrArg
		tree old 20 1200..1260 10..5 3 => ErrArg
		tree old 20 1200..1260 5..10 5 => ErrArg
		tree old 20 1200..1260 5..10 -1 => ErrArg
		hole old 20 0 1000 => ErrNone
		tree old 20 1200..1260 5..10 3 => ok
		tree old -1 1260..1200 10..5 5 => ErrTwice
		hole old 20 0 1000 => 1
		hole old 10000 0 1000 => ErrArg
		hole old 20 3600 1000 => ErrArg
		hole old 20 -1 1000 => ErrArg
		hole old 20 0 5001 => ErrArg
		hole new 10000 3600 5001 => ErrNone
		hole old 9999 3599 5000 => 2
		hole old 0 0 0 => 3
	`)
}

// TestP13_1TenTrees shows that there are at most ten trees.
func TestP13_1TenTrees(t *testing.T) {
	m := maker.New()
	for _, n := range names(10) {
		told(t, m, "tree "+n+" 20 1200..1260 5..10 3 => ok")
	}
	told(t, m, `
		tree k 20 1200..1260 5..10 3 => ErrFull
		tree k -1 1200..1260 5..10 3 => ErrFull
		tree a 20 1200..1260 5..10 3 => ErrTwice
		tree j -1 1200..1260 5..10 3 => ErrTwice
		hole k 20 0 0 => ErrNone
		hole j 20 0 0 => 1
		net k 8000 => 1
		barrel k 1 0 0..0 0..0 0..0 => ok
	`)
}

// TestP13_1SixtyHoles shows that a tree has at most 60 holes, drilled ones among them.
func TestP13_1SixtyHoles(t *testing.T) {
	m := after(t, oldTree, "tree other 20 1200..1260 5..10 3", manyTaps)
	for i, line := range numbered(59, "hole old 0 %d 0") {
		told(t, m, fmt.Sprintf("%s => %d", line, i+1))
	}
	told(t, m, `
		drill old 24 1000 2 => ErrState
		hole old 20 3600 0 => ErrArg
		drill old 200 1000 1 => 0
		hole old 20 3600 0 => ErrFull
		hole old 20 0 0 => ErrFull
		hole new 20 0 0 => ErrNone
		drill old 200 1000 1 => ErrFull
		drill old 200 1000 0 => -
		drill old 400 1000 1 => ErrFull
		hole other 20 0 0 => 1
	`)
}

// TestP13_1Taps shows the errors of what is told of a tree, in their order.
func TestP13_1Taps(t *testing.T) {
	m := after(t, oldTree, "hole old 20 0 1000")
	for _, s := range []string{"taps new 24", "taps new 19", "free new 24 1000", "free new 19 5001", "drill new 24 1000 1", "drill new 19 5001 21", "rota new 24 1 1000 2", "rota new 19 21 5001 41"} {
		told(t, m, s+" => ErrNone")
		told(t, m, strings.Replace(s, "new", "old", 1)+" => ErrState")
	}
	told(t, m, rules+` => ok
		taps new 24 => ErrNone
		taps old 24 => 1..1
		taps old 20 => 1..1
		taps old 19 => ErrRange
		taps old 10000 => ErrRange
		free new 24 1000 => ErrNone
		free old 24 1000 => 178..3422
		free old 24 1300 => 0..3599
		free old 28 1000 => 0..3599
		free old 19 1000 => ErrRange
		free old 24 5001 => ErrRange
		free old 24 -1 => ErrRange
	`)
	told(t, after(t, "tree thin 20 1..1 0..0 3", "hole thin 20 0 1000", rules), "free thin 20 1000 => -")
	told(t, after(t, oldTree, "hole old 20 1000 1000", "hole old 20 2000 1000", rules), "free old 24 1000 => 0..822,1178..1822,2178..3599")
}

// TestP13_1Drill shows what drilling adds, and that it must keep the rules.
func TestP13_1Drill(t *testing.T) {
	told(t, after(t, treeLines()...), `
		drill new 24 1000 1 => ErrNone
		drill old 19 1000 1 => ErrRange
		drill old 24 5001 1 => ErrRange
		drill old 24 1000 21 => ErrRange
		drill old 24 1000 -1 => ErrRange
		drill old 24 1000 4 => ErrNone
		drill old 24 1700 1 => ErrNone
		drill old 24 1000 2 => ErrState
		drill old 24 1000 3 => ErrState
		free old 24 1000 => 178..3422
		drill old 24 1000 0 => -
		drill old 24 1000 1 => 178
		free old 24 1000 => 356..3422
		drill old 24 1000 1 => 356
		hole old 20 0 0 => 4
		taps old 24 => 1..1
		taps old 25 => 1..1
	`)
	told(t, after(t, oldTree, "hole old 20 0 1000", "taprules 30..60 200..300 3..8 400 600..1600 800:3 3,3,3,3,3 60"), `
		drill old 24 1000 3 => 178,1359,2540
		hole old 20 0 0 => 5
	`)
}

// TestP13_1Rota shows the plan of years, which drills nothing.
func TestP13_1Rota(t *testing.T) {
	told(t, after(t, treeLines()...), `
		rota new 24 1 1000 2 => ErrNone
		rota old 24 1 1000 0 => -
		rota old 24 1 - 0 => -
		rota old 24 1 1000 1 => 178
		rota old 24 1 1000 2 => 178 / 355
		rota old 24 0 1000 1 => -
		rota old 24 0 1000 3 => - / - / -
		rota old 24 2 1000 1 => ErrNone
		rota old 24 1 - 1 => ErrNone
		rota old 24 1 1700,1300 1 => 0
		rota old 24 1 1300,1000 3 => 0 / 177 / 353
		rota old 19 1 1000 1 => ErrRange
		rota old 24 21 1000 1 => ErrRange
		rota old 24 1 5001 1 => ErrRange
		rota old 24 1 1000 -1 => ErrRange
		rota old 24 1 1000 41 => ErrLong
		rota old 9999 1 1000 2 => ErrRange
		hole old 20 0 0 => 2
	`)
	told(t, after(t, oldTree, "hole old 20 0 1000", "taprules 30..60 200..300 3..8 400 600..1600 800:3 3,3,3,3,3 60"), `
		rota old 24 2 1000,1500 2 => 178,1359 / 355,1536
		rota old 24 3 1000,1500 2 => 178,1359,2540 / 355,1536,2717
	`)
}

// TestP13_4Drilled shows that what is drilled was free, and is no more in the same year.
func TestP13_4Drilled(t *testing.T) {
	d := dice()
	drilled := 0
	for range 500 {
		tree := fmt.Sprintf("tree old %d %d..%d %d..%d %d", 20, 800+d.IntN(200), 1000+d.IntN(3000), d.IntN(5), 5+d.IntN(20), d.IntN(5))
		// Stains can reach a millimeter, and holes can count for a year.
		law := fmt.Sprintf("taprules 0..%d 0..%d 0..%d %d 0..5000 1:20 20,20,20,20,20 60", 1+d.IntN(60), 1+d.IntN(300), 1+d.IntN(9), 1+d.IntN(300))
		m := after(t, tree, law)
		for range 4 {
			year, height, n := 20+d.IntN(3), 1000+d.IntN(3)*100, d.IntN(4)
			before := rangesOf(say(m, fmt.Sprintf("free old %d %d", year, height)))
			text, e := m.Line(fmt.Sprintf("drill old %d %d %d", year, height, n))
			if e != api.OK {
				continue
			}
			behind := rangesOf(say(m, fmt.Sprintf("free old %d %d", year, height)))
			for _, angle := range word(text).list() {
				drilled++
				if !within(before, angle) || within(behind, angle) {
					t.Fatal(tree, law, year, height, text, before, behind)
				}
			}
		}
	}
	if drilled < 500 {
		t.Error(drilled)
	}
}

// rangesOf returns the ranges of a text, and within reports whether a number is in one of them.
func rangesOf(text string) []api.Range { return word(text).ranges() }

func within(l []api.Range, n int) bool {
	for _, r := range l {
		if r.Low <= n && n <= r.High {
			return true
		}
	}
	return false
}

// TestP13_5Tree compares with the calls of chapter 2 for the same tree and rules.
func TestP13_5Tree(t *testing.T) {
	r := api.TapRules{Side: api.Range{Low: 30, High: 60}, Up: api.Range{Low: 200, High: 300}, Heal: api.Range{Low: 3, High: 8}, Apart: 400, Between: api.Range{Low: 600, High: 1600}, Sizes: []api.Size{{Girth: 800, Taps: 1}, {Girth: 1500, Taps: 2}}, Healths: [5]int{2, 2, 2, 2, 2}, Open: 5}
	tree := api.Tree{Year: 20, Girth: api.Range{Low: 1200, High: 1260}, Grow: api.Range{Low: 5, High: 10}, Health: 3, Holes: []api.Hole{{Year: 20, Spot: api.Spot{Height: 1000}}}}
	m := after(t, treeLines()...)
	for year := 15; year < 60; year++ {
		taps, e := trunk.Taps(tree, r, year)
		if got := say(m, fmt.Sprint("taps old ", year)); got != called(rangeText(taps), e) {
			t.Error(year, got, taps, e)
		}
		for height := 600; height <= 1600; height += 50 {
			free, e := trunk.Free(tree, r, year, height)
			if got := say(m, fmt.Sprint("free old ", year, " ", height)); got != called(rangesText(free), e) {
				t.Error(year, height, got, free, e)
			}
		}
	}
}
