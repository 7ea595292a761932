package maker_test

import (
	"fmt"
	"slices"
	"testing"

	"spile/api"
	"spile/maker"
)

// anyLines returns lines about one part, or about several ones.
func anyLines(n int) [][]string {
	d := dice()
	words, odd := usual(), hostile()
	var all [][]string
	for i := range n {
		commands := tables()[i%len(tables())]
		if i%5 == 4 {
			commands = slices.Concat(commands, anyOf(d, tables()...))
		}
		if i%50 == 49 {
			commands = slices.Concat(tables()...)
		}
		var lines []string
		if d.IntN(2) == 0 {
			lines = slices.Concat(allLines()...)
		}
		for range anyOf(d, 10, 30, 100) {
			lines = append(lines, anyLine(d, words, odd, commands...))
		}
		all = append(all, lines)
	}
	return all
}

// TestP13_5Typed compares any lines with what the packages return, by the tables of the chapter; it also shows P13.1 and P1.
func TestP13_5Typed(t *testing.T) {
	answered, refused := map[string]int{}, map[api.Errno]int{}
	for _, lines := range anyLines(1500) {
		m, w := maker.New(), newWorld()
		for _, s := range lines {
			text, e := m.Line(s)
			want, wrong := w.line(s)
			if text != want || e != wrong {
				t.Fatalf("%q: %q instead of %q\n%q", s, shown(text, e), shown(want, wrong), lines)
			}
			if e == api.OK {
				var command string
				fmt.Sscan(s, &command)
				answered[command]++
			}
			refused[e]++
		}
	}
	for command := range chapter() {
		if answered[command] < 5 {
			t.Error(command, "was answered only", answered[command], "times")
		}
	}
}
