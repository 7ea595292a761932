package maker_test

import (
	"strings"
	"testing"

	"spile/api"
	"spile/maker"
)

// fillers returns a word of each form for which no command has ErrForm, but for the list of healths, the takes of what is made, and the other words of a member.
func fillers() map[string]string {
	return map[string]string{"NAME": "a", "INT": "1", "RANGE": "1..1", "SAP": "1+1", "LIST": "1,1,1,1,1", "RANGES": "1..1", "ROWS": "1:1", "HEX": "00", "WORD": "plain"}
}

// wrong returns words that have not a form.
func wrong() map[string][]string {
	return map[string][]string{
		"NAME":   {"", "-", "A", "aB", "Old", "a1", "1", "1a", "a-b", "a_b", "a.", "a,b", "a:", "é", "aé", "a\t", "a\n", "{", "`", "abcdefghijklm", "abcdefghijklmnopqrstuvwxyz"},
		"INT":    {"", "-", "--1", "+1", "+0", "-0", "00", "01", "-01", "1.", "1.0", "1,2", "1..2", "1+2", "1:2", "a", "1a", "0x1", "1e3", "1_000", "1\n", "٣", "1000000000000001", "-1000000000000001", "9223372036854775807", "9223372036854775808", "-9223372036854775809", "100000000000000000000000000000000"},
		"RANGE":  {"", "-", "1", "1.2", "1...2", "1....2", "..", "..2", "1..", "1..2..", "1..2..3", "1,2", "1:2", "1-2", "1..2,3..4", "01..2", "1..02", "+1..2", "1..+2", "-0..2", "a..b", "1000000000000001..1000000000000001", "0..1000000000000001", "-1000000000000001..0"},
		"SAP":    {"", "-", "5", "+", "5+", "+5", "5++5", "5+5+", "5+5+5", "5-5", "5..5", "5,5", "05+5", "5+05", "5+-0", "a+b", "1000000000000001+0", "0+1000000000000001"},
		"LIST":   {"", ",", "1,", ",1", "1,,2", "--", "-,1", "1,-", "-,-", "1;2", "1..2", "1:2", "01", "1,02", "1,+2", "1,-0", "a", "1,a", "1000000000000001", "1,-1000000000000001"},
		"RANGES": {"", ",", "1", "1..2,", ",1..2", "1..2,,3..4", "--", "-,1..2", "1..2,-", "1..2,3", "1..2;3..4", "1..2..3", "1:2", "1.2", "1..,2..3", "1..2,01..2", "1..2,0..1000000000000001"},
		"ROWS":   {"", ",", "1", "1:", ":1", "1:2,", ",1:2", "1:2,,3:4", "--", "-,1:2", "1:2,-", "1:2,3", "1:2:3", "1..2", "1;2", "01:2", "1:02", "1:+2", "a:b", "1:2,3:1000000000000001"},
		"HEX":    {"", "-", "0", "000", "00f", "0A", "A0", "AB", "0g", "g0", "0x", "0x00", "00,00", " ", "0.", "/0", "0:", "`0", "ff\n"},
		"WORD":   {""},
	}
}

// right returns words that have a form, at its limits.
func right() map[string][]string {
	return map[string][]string{
		"NAME":   {"a", "z", "az", "abcdefghijkl", "ok", "tree", "organic"},
		"INT":    {"0", "1", "-1", "9", "10", "-10", "999999999999999", "1000000000000000", "-1000000000000000"},
		"RANGE":  {"0..0", "3..5", "5..3", "-5..-3", "-3..-5", "0..-1", "-1000000000000000..1000000000000000", "1000000000000000..-1000000000000000"},
		"SAP":    {"0+0", "970+30", "-1+5", "5+-1", "-1+-1", "1000000000000000+-1000000000000000"},
		"LIST":   {"-", "0", "-1", "1,2,3", "2,2", "3,-1,0", "1000000000000000,-1000000000000000"},
		"RANGES": {"-", "0..0", "1..2,3..4", "2..1,-1..-2", "-1000000000000000..1000000000000000,0..0"},
		"ROWS":   {"-", "0:0", "1:2,3:4", "3:-4,-1:2", "1000000000000000:-1000000000000000,1:1"},
		"HEX":    {"00", "ff", "0123456789abcdef", "4d0200"},
		"WORD":   {"-", "organic", "plain", "Plain", "é", "1", "...", "a\tb", "+", "\x00"},
	}
}

// TestP13_1Forms also shows that the form comes first: nothing is set, and nothing is there.
func TestP13_1Forms(t *testing.T) {
	for command, c := range chapter() {
		forms := strings.Fields(c.forms)
		line := func(change func(words []string)) string {
			words := []string{command}
			for _, form := range forms {
				words = append(words, fillers()[form])
			}
			change(words[1:])
			return strings.Join(words, " ")
		}
		for i, form := range forms {
			for _, word := range wrong()[form] {
				if s := line(func(words []string) { words[i] = word }); say(maker.New(), s) != "ErrForm" {
					t.Errorf("%q: %q", s, say(maker.New(), s))
				}
			}
			for _, word := range right()[form] {
				s := line(func(words []string) { words[i] = word })
				want := shown(newWorld().line(s))
				if got := say(maker.New(), s); got != want || want == "ErrForm" && command != "make" && form != "LIST" && form != "WORD" {
					t.Errorf("%q: %q instead of %q", s, got, want)
				}
			}
		}
	}
}

// TestP13_1Words asks for each command with one word too few and one too many, and with spaces where none belongs.
func TestP13_1Words(t *testing.T) {
	for command, c := range chapter() {
		words := []string{command}
		for _, form := range strings.Fields(c.forms) {
			words = append(words, fillers()[form])
		}
		line := strings.Join(words, " ")
		if got := say(maker.New(), line); got == "ErrForm" {
			t.Errorf("%q: %q", line, got)
		}
		bad := []string{line + " 1", line + " a", line + " -", line + " ", " " + line, "  " + line, line + "  ", line + "\n", "\t" + line, strings.ToUpper(command) + line[len(command):], command + "s" + line[len(command):], command[:len(command)-1] + line[len(command):]}
		if len(words) > 1 {
			bad = append(bad, strings.Join(words[:len(words)-1], " "), command, command+" ", strings.Replace(line, " ", "  ", 1), strings.Replace(line, " ", "\t", 1), strings.Join(words, "\t"))
		}
		for _, s := range bad {
			if strings.HasPrefix(s, "member") && strings.HasSuffix(s, "plain\n") {
				continue // this is a word, too
			}
			first, _, _ := strings.Cut(s, " ")
			if _, other := chapter()[first]; other && first != command {
				continue // this is another command
			}
			if got := say(maker.New(), s); got != "ErrForm" {
				t.Errorf("%q: %q", s, got)
			}
		}
	}
	for _, s := range []string{"", " ", "  ", "a", "-", "1", "command", "nothing old", "\n", "é", "\x00", "\xff", "Tree", "TREE", "tree,", "map", "types", "range 1..2"} {
		if got := say(everything(t), s); got != "ErrForm" {
			t.Errorf("%q: %q", s, got)
		}
	}
}

// TestP13_1SeveralSpaces also shows that two spaces are no word, even where any word may be.
func TestP13_1SeveralSpaces(t *testing.T) {
	told(t, after(t, poolLines()[0]), `
		member  0 0 plain => ErrForm
		member 0  0 plain => ErrForm
		member 0 0  plain => ErrForm
		member 0 0 => ErrForm
		member 0 0 plain => 1
	`)
	for _, s := range []string{"member 0 0 ", "member 0 0 plain ", " member 0 0 plain", "member 0 0 plain  "} {
		if got := say(after(t, poolLines()[0]), s); got != "ErrForm" {
			t.Errorf("%q: %q", s, got)
		}
	}
}

// TestP13_1Long compares lines of 4000 bytes with lines of one more, whatever they are.
func TestP13_1Long(t *testing.T) {
	line := "weather 10..10,-1..-1," + strings.Repeat("0..0,", 792) + "-1..0,-1..0,0..200"
	m := after(t, weatherLines()[0])
	if got := say(m, line); len(line) != 4000 || got != "797" {
		t.Error(len(line), got)
	}
	if got := say(m, strings.Replace(line, "-1..0", "-10..0", 1)); got != "ErrLong" {
		t.Error(got)
	}
	for _, s := range []string{strings.Repeat("a", 4001), strings.Repeat(" ", 4001), "tree " + strings.Repeat("a", 3996), "seal" + strings.Repeat(" ", 3997), strings.Repeat("é", 2001)} {
		if text, e := m.Line(s); text != "" || e != api.ErrLong {
			t.Error(len(s), text, e)
		}
		if text, e := m.Line(s[:4000]); text != "" || e != api.ErrForm {
			t.Error(text, e)
		}
		if text, e := m.Line(strings.Repeat(s, 100)); text != "" || e != api.ErrLong {
			t.Error(text, e)
		}
	}
	// It is bytes that are counted, not signs.
	if got := say(m, "member 0 0 "+strings.Repeat("é", 1994)); got != "ErrState" {
		t.Error(got)
	}
	if got := say(m, "member 0 0 "+strings.Repeat("é", 1995)); got != "ErrLong" {
		t.Error(got)
	}
}

// TestP13_1Nil shows that a nil maker has this error, whatever the line is.
func TestP13_1Nil(t *testing.T) {
	var m *maker.Maker
	for _, s := range []string{"", "seal", "state", "tree old 20 1200..1260 5..10 3", "nothing", " ", strings.Repeat("a", 4001)} {
		if text, e := m.Line(s); text != "" || e != api.ErrNil {
			t.Error(s, text, e)
		}
	}
}

// TestP13_1Names shows what names there can be.
func TestP13_1Names(t *testing.T) {
	told(t, maker.New(), `
		tree abcdefghijkl 20 1200..1260 5..10 3 => ok
		tree abcdefghijkl 20 1200..1260 5..10 3 => ErrTwice
		tree abcdefghijklm 20 1200..1260 5..10 3 => ErrForm
		tree abcdefghijk 20 1200..1260 5..10 3 => ok
		tree tree 20 1200..1260 5..10 3 => ok
		tree Tree 20 1200..1260 5..10 3 => ErrForm
		tree t 20 1200..1260 5..10 3 => ok
		hole t 20 0 0 => 1
		hole tt 20 0 0 => ErrNone
		hole T 20 0 0 => ErrForm
	`)
}
