package maker_test

import (
	"bytes"
	"fmt"
	"math/rand/v2"
	"reflect"
	"slices"
	"strings"
	"testing"

	"spile/api"
	"spile/maker"
)

// asked returns lines that ask about everything there may be, and change nothing.
func asked() []string {
	var l []string
	for _, n := range []string{"a", "b", "old", "bush", "keg", "sure"} {
		l = append(l, "taps "+n+" 24", "free "+n+" 24 1000", "rota "+n+" 24 1 1000,1300 3", "way "+n+" 2", "loads "+n+" -", "vacuum "+n+" -", "map "+n, "places "+n+" 100000 3", "next "+n+" 100000 3", "check "+n+" 100000 3 0", "crop "+n, "grade "+n, "worth "+n)
	}
	for i := range 5 {
		l = append(l, fmt.Sprint("tank ", i), fmt.Sprint("trace ", i), fmt.Sprint("recall ", i), fmt.Sprint("amount ", i, " 0"))
	}
	return append(l, "walk 0 1,2,3", "runs", "daily", "begin", "cellar", "rounds 900+100 5000 200 1", "levels 2 1000..1000", "levels 1 1000..1000,1000..1000", "dry 30 1000..1000", "hottest 30 1000..1000", "tapday", "mean", "settle 84000", "become", "yield", "state", "seal", "book")
}

// portrait returns what a maker answers to all of them.
func portrait(m *maker.Maker) []string {
	var l []string
	for _, s := range asked() {
		l = append(l, say(m, s))
	}
	return l
}

// TestP13_1Examples shows the examples of the chapter.
func TestP13_1Examples(t *testing.T) {
	told(t, maker.New(), `
		tree old 20 1200..1260 5..10 3 => ok
		hole old 20 0 1000 => 1
		taprules 30..60 200..300 3..8 400 600..1600 800:1,1500:2 2,2,2,2,2 5 => ok
		taps old 24 => 1..1
		free old 24 1000 => 178..3422
		drill old 24 1000 1 => 178
		drill old 24 1000 1 => 356
		net bush 8000 => 1
		pipe bush 0 1000 20 500 0 => 2
		pipe bush 1 400 8 -30 5 => 3
		way bush 2 => 2,1,0
		tanks 0:10,100:50,200:300 1000 1..2 1000,500 => ok
		pour 0 490+10 100..200 => ok
		stay 10 40..60 => ok
		tank 0 => 490+10 1 360..540 10..20 0 0
		outlook 2 => ok
		scenario 1 0,10,4,0 => 1
		scenario 3 6,0,0,9 => 2
		tapday => 0 4
		entry 1 1 3 0 980+20 => 1
		state => 980+20 0+0 0
	`)
}

// TestP13_1SameName shows that things of different sorts can have the same name.
func TestP13_1SameName(t *testing.T) {
	told(t, maker.New(), `
		net old 8000 => 1
		hole old 20 0 1000 => ErrNone
		taster old 2..2 0 0 => ErrNone
		barrel old 1 0 0..0 0..0 0..0 => ok
		hole old 20 0 1000 => ErrNone
		tree old 20 1200..1260 5..10 3 => ok
		hole old 20 0 1000 => 1
		taster old 2..2 0 0 => 1
		pipe old 0 1 80 0 0 => 2
		net old 8000 => ErrTwice
		barrel old 1 0 0..0 0..0 0..0 => ErrTwice
		tree old 20 1200..1260 5..10 3 => ErrTwice
	`)
}

// TestP13_2Play compares with Line, one line after another.
func TestP13_2Play(t *testing.T) {
	for _, lines := range [][]string{nil, {}, {""}, {"seal"}} {
		if l := maker.Play(lines); len(l) != len(lines) {
			t.Error(lines, l)
		}
	}
	for _, lines := range append(anyLines(60), slices.Concat(allLines()...), asked()) {
		given := slices.Clone(lines)
		played, m := maker.Play(given), maker.New()
		if !slices.Equal(given, lines) || len(played) != len(lines) {
			t.Fatal("the lines are changed", given, lines)
		}
		for i, s := range lines {
			text, e := m.Line(s)
			if (played[i] != api.MakerAnswer{Text: text, Err: e}) {
				t.Fatal(s, played[i], text, e)
			}
		}
		kept := slices.Clone(played)
		for i := range played {
			played[i] = api.MakerAnswer{Text: "written", Err: 77}
		}
		if again := maker.Play(given); !slices.Equal(again, kept) {
			t.Fatal("it is not the same again", again, kept)
		}
	}
}

// TestP13_3Errors shows that all lines have the same answers without those that have an error.
func TestP13_3Errors(t *testing.T) {
	left := 0
	for _, lines := range anyLines(400) {
		var right []string
		var answers []api.MakerAnswer
		for i, a := range maker.Play(lines) {
			if a.Err != api.OK {
				left++
				continue
			}
			right, answers = append(right, lines[i]), append(answers, a)
		}
		if got := maker.Play(right); !slices.Equal(got, answers) {
			t.Fatalf("%q\n%v\n%v", right, got, answers)
		}
	}
	if left < 5000 {
		t.Error(left)
	}
}

// TestP13_3Changes shows, for each command, that a line with an error and a line that asks change nothing of all that can be asked.
func TestP13_3Changes(t *testing.T) {
	d := dice()
	words, odd := usual(), hostile()
	m := everything(t)
	before := portrait(m)
	if again := portrait(m); !slices.Equal(again, before) {
		t.Fatal(again, before)
	}
	for command := range chapter() {
		wrong := 0
		for tries := 0; wrong < 10 && tries < 300; tries++ {
			line := anyLine(d, words, odd, command)
			if _, e := m.Line(line); e == api.OK {
				m = everything(t)
				continue
			}
			wrong++
			if after := portrait(m); !slices.Equal(after, before) {
				t.Fatal(line, after, before)
			}
		}
		if wrong < 5 {
			t.Error(command, wrong)
		}
	}
}

// TestP13_3OtherParts shows that lines about other parts change no answer.
func TestP13_3OtherParts(t *testing.T) {
	d := dice()
	words, odd := usual(), hostile()
	for range 300 {
		var parts [][]string
		for i, lines := range allLines() {
			var commands []string
			for _, s := range lines {
				command, _, _ := strings.Cut(s, " ")
				commands = append(commands, command)
			}
			commands = append(commands, [][]string{{"taps", "free", "drill", "rota"}, {"way", "loads", "vacuum", "map", "sensor", "places", "next", "load"}, {"walk"}, {"runs", "daily", "begin"}, {"draw", "move", "dump", "wash", "tank", "cellar"}, {"act", "levels", "dry", "hottest"}, {"grade", "worth"}, {"trace", "recall", "amount"}, {"tapday", "mean"}, {"settle"}, {"become", "yield", "seed"}, {"state", "seal", "book"}}[i]...)
			if d.IntN(2) == 0 {
				lines = nil
			}
			for range 10 {
				lines = append(lines, anyLine(d, words, odd, commands...))
			}
			parts = append(parts, lines)
		}
		checkMixed(t, d, parts)
	}
}

// checkMixed tells the lines of parts in any order, each part's in its own, and compares with the answers to each part alone.
func checkMixed(t *testing.T, d *rand.Rand, parts [][]string) {
	t.Helper()
	var order []int
	for i, lines := range parts {
		order = append(order, slices.Repeat([]int{i}, len(lines))...)
	}
	d.Shuffle(len(order), func(i, j int) { order[i], order[j] = order[j], order[i] })
	m, next, mixed := maker.New(), make([]int, len(parts)), make([][]api.MakerAnswer, len(parts))
	for _, i := range order {
		text, e := m.Line(parts[i][next[i]])
		next[i]++
		mixed[i] = append(mixed[i], api.MakerAnswer{Text: text, Err: e})
	}
	for i, lines := range parts {
		if alone := maker.Play(lines); !slices.Equal(alone, mixed[i]) {
			t.Fatal(lines, alone, mixed[i])
		}
	}
}

// TestP13_3Makers shows that two makers share nothing, and that the same lines have the same answers.
func TestP13_3Makers(t *testing.T) {
	full, bare := everything(t), maker.New()
	before, nothing := portrait(full), portrait(maker.New())
	if got := portrait(bare); !slices.Equal(got, nothing) || slices.Equal(got, before) {
		t.Error(got)
	}
	for _, lines := range anyLines(100) {
		one, other := maker.New(), maker.New()
		for _, s := range lines {
			if a, b := say(one, s), say(other, s); a != b {
				t.Fatal(s, a, b)
			}
			say(one, "seal") // asks only
		}
		if a, b := portrait(one), portrait(other); !slices.Equal(a, b) {
			t.Fatal(a, b)
		}
	}
	if got := portrait(full); !slices.Equal(got, before) {
		t.Error(got)
	}
	if got := portrait(bare); !slices.Equal(got, nothing) {
		t.Error(got)
	}
	if got := portrait(everything(t)); !slices.Equal(got, before) {
		t.Error(got)
	}
}

// TestP1AnyBytes also shows P2: whatever bytes a line has, it ends, nothing panics, and with an error the text is empty.
func TestP1AnyBytes(t *testing.T) {
	d := dice()
	words, odd := usual(), hostile()
	var m *maker.Maker
	var w *world
	for i := range 20000 {
		if i%500 == 0 {
			m, w = everything(t), newWorld()
			for _, s := range slices.Concat(allLines()...) {
				w.line(s)
			}
		}
		line := []byte(anyLine(d, words, odd, slices.Concat(tables()...)...))
		for range d.IntN(4) {
			line = spoiled(d, line)
		}
		text, e := m.Line(string(line))
		want, wrong := w.line(string(line))
		if text != want || e != wrong || e != api.OK && text != "" || e == api.OK && text == "" {
			t.Fatalf("%q: %q instead of %q", line, shown(text, e), shown(want, wrong))
		}
	}
}

// spoiled returns a line with some bytes more, less, or in the place of others.
func spoiled(d *rand.Rand, line []byte) []byte {
	at, sign := d.IntN(len(line)+1), anyOf(d, []byte(" -.,:+0123456789abcdefxyzABC\t\n\x00\x80\xff")...)
	switch d.IntN(3) {
	case 0:
		return slices.Insert(line, at, sign)
	case 1:
		return bytes.ReplaceAll(line, line[:min(1, at)], []byte{sign})
	}
	return append(slices.Clone(line[:at]), line[min(at+d.IntN(9), len(line)):]...)
}

// TestP1AllNumbers puts each number at the limits, and beyond them, into each place of each line.
func TestP1AllNumbers(t *testing.T) {
	for _, lines := range allLines() {
		for at, line := range lines {
			for _, changed := range changes(line) {
				m, w := maker.New(), newWorld()
				for _, s := range slices.Concat(lines[:at], []string{changed}, lines[at+1:]) {
					if got, want := say(m, s), shown(w.line(s)); got != want {
						t.Fatalf("%q in %q: %q instead of %q", s, changed, got, want)
					}
				}
			}
		}
	}
}

// changes returns a line with other numbers, one after another.
func changes(line string) []string {
	digit := func(r rune) bool { return r >= '0' && r <= '9' }
	var l []string
	for at := 0; at < len(line); at++ {
		if !digit(rune(line[at])) {
			continue
		}
		end := at
		for end < len(line) && digit(rune(line[end])) {
			end++
		}
		for _, n := range []string{"-1000000000000000", "-1000000000", "-2", "-1", "0", "1", "2", "3", "10", "100", "10000", "1000000", "1000000000", "1000000000000", "1000000000000000", "1000000000000001", ""} {
			l = append(l, line[:at]+n+line[end:])
		}
		at = end
	}
	return l
}

// TestP2Calls shows that a maker has Line alone.
func TestP2Calls(t *testing.T) {
	calls := reflect.TypeOf(maker.New())
	if calls.NumMethod() != 1 || calls.Method(0).Name != "Line" {
		t.Error(calls.NumMethod())
	}
	if n := reflect.TypeOf(maker.Maker{}); slices.ContainsFunc(reflect.VisibleFields(n), func(f reflect.StructField) bool { return f.IsExported() && len(f.Index) == 1 }) {
		t.Error(n)
	}
}
