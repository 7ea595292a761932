package maker_test

import (
	"fmt"
	"math/rand/v2"
	"slices"
	"strings"
	"testing"

	"spile/api"
	"spile/books"
	"spile/maker"
)

// errorNames are the names of errors.
func errorNames() map[api.Errno]string {
	return map[api.Errno]string{
		api.ErrNil: "ErrNil", api.ErrArg: "ErrArg", api.ErrRange: "ErrRange", api.ErrForm: "ErrForm", api.ErrLong: "ErrLong", api.ErrTwice: "ErrTwice",
		api.ErrNone: "ErrNone", api.ErrFull: "ErrFull", api.ErrState: "ErrState", api.ErrOver: "ErrOver", api.ErrShort: "ErrShort", api.ErrSpill: "ErrSpill",
		api.ErrEnd: "ErrEnd", api.ErrSum: "ErrSum",
	}
}

// shown returns a text, or the name of an error with what is beside it.
func shown(text string, e api.Errno) string {
	if e == api.OK {
		return text
	}
	return errorNames()[e] + text
}

// called returns a text of what a call of a package returns, or the name of its error.
func called(text string, e api.Errno) string {
	if e != api.OK {
		return errorNames()[e]
	}
	return text
}

// say says a line to a maker, and returns what it answers.
func say(m *maker.Maker, line string) string { return shown(m.Line(line)) }

// told says lines to a maker: each line of a script is one, then => and what is answered, an error by its name.
func told(t *testing.T, m *maker.Maker, script string) {
	t.Helper()
	for s := range strings.Lines(strings.TrimSpace(script)) {
		line, want, ok := strings.Cut(strings.Trim(s, "\t\n"), " => ")
		if got := say(m, line); got != want || !ok {
			t.Errorf("%q: %q instead of %q", line, got, want)
		}
	}
}

// after returns a maker to whom lines were said, none of which has an error.
func after(t *testing.T, lines ...string) *maker.Maker {
	t.Helper()
	m := maker.New()
	for _, line := range lines {
		if text, e := m.Line(line); e != api.OK {
			t.Fatal(line, text, e)
		}
	}
	return m
}

// numbered returns so many lines that differ in a number, from 0 on.
func numbered(n int, line string) []string {
	var l []string
	for i := range n {
		l = append(l, fmt.Sprintf(line, i))
	}
	return l
}

// names returns so many names.
func names(n int) []string {
	var l []string
	for i := range n {
		l = append(l, string(rune('a'+i%26))+strings.Repeat("x", i/26))
	}
	return l
}

// Lines that are said first: those of the examples of the chapters.
func treeLines() []string {
	return []string{"tree old 20 1200..1260 5..10 3", "hole old 20 0 1000", "taprules 30..60 200..300 3..8 400 600..1600 800:1,1500:2 2,2,2,2,2 5"}
}

func netLines() []string {
	return []string{
		"net bush 8000", "pipe bush 0 1000 20 500 0", "pipe bush 1 400 8 -30 5", "pipe bush 1 300 8 100 4", "pipe bush 3 200 8 50 2",
		"flow bush 2 5000..6000", "flow bush 3 4000..4000", "flow bush 4 2000..2000",
	}
}

func trailLines() []string {
	return []string{"trail 0 1 5", "trail 1 2 4", "trail 1 3 6", "trail 2 3 3"}
}

func weatherLines() []string {
	return []string{"thawrules -10 20 2 5 1 3 2 500..800 1", "weather -30..-5,50..50,50..50", "weather 50..50,50..50"}
}

func tankLines() []string {
	return []string{"tanks 0:10,100:50,200:300 1000 1..2 1000,500", "pour 0 490+10 100..200", "stay 10 40..60", "pour 0 294+6 0..15"}
}

func panLines() []string { return []string{"pan 1000 2000 50 100 30 60 800 3000"} }

func barrelLines() []string {
	return []string{
		"grades 0:-50,200:0,400:100 6600..6890 2 100 300", "class 750 1..3 900", "class 500 2..5 800", "class 250 3..9 700",
		"barrel keg 30000 2000 6640..6650 180..220 740..760", "taster keg 2..2 0 0", "taster keg 3..4 0 0", "taster keg 3..3 0 0",
		"barrel sure 30000 2000 6640..6650 180..220 600..700", "taster sure 3..4 0 0",
	}
}

func ledgerLines() []string { return []string{"gather 1000", "gather 500", "make 0:600,1:500 50"} }

func seasonLines() []string {
	return []string{"outlook 2", "scenario 1 0,10,4,0", "scenario 3 6,0,0,9"}
}

func poolLines() []string {
	return []string{
		"poolrules 900,800,700 100 600 100000 50 1000 5000 2 20 1 3", "member 50000 20000 plain", "member 30000 0 organic",
		"deliver 0 0 40000", "organic 1 0 30000 100 200 20 1 3", "deliver 1 1 30000",
	}
}

func candyLines() []string {
	return []string{
		"candyrules 0:0,6600:40,8600:180,9500:300 0:6400,1000:8300 995..1005", "product 8400..8700 0..300 15..60 0 90",
		"product 8500..9000 600..1000 2..6 0 60", "product 9000..9600 900..1300 5..20 0 40",
		"batch 2000+4000", "cook 1180..1180", "cool 200..250", "stir 20..20",
	}
}

func bookLines() []string {
	return []string{"entry 1 1 3 0 980+20", "entry 1 3 970 1000 0+0", "entry 2 4 1 30 0+0"}
}

// allLines returns the lines of each part that can be told without another one.
func allLines() [][]string {
	return [][]string{
		treeLines(), netLines(), trailLines(), weatherLines(), tankLines(), panLines(), barrelLines(), ledgerLines(), seasonLines(), poolLines(), candyLines(), bookLines(),
	}
}

// everything returns a maker to whom all of these lines were said.
func everything(t *testing.T) *maker.Maker {
	t.Helper()
	return after(t, slices.Concat(allLines()...)...)
}

// dice returns numbers that are the same in each run.
func dice() *rand.Rand { return rand.New(rand.NewPCG(13, 13)) }

// anyOf returns one of several things.
func anyOf[T any](d *rand.Rand, l ...T) T { return l[d.IntN(len(l))] }

// hexOf returns the bytes of tubing.
func hexOf(pump int, pipes ...api.Pipe) string {
	b, _ := books.WriteMap(api.Net{Pump: pump, Pipes: append([]api.Pipe{{Parent: -1}}, pipes...)})
	return fmt.Sprintf("%x", b)
}

// usual returns, for each command, words that it can have, place by place.
func usual() map[string][][]string {
	name := []string{"a", "b", "old", "bush", "keg", "sure"}
	year, height := []string{"20", "21", "24", "28", "30"}, []string{"1000", "700", "1500", "1600", "1800"}
	node, air, steps := []string{"0", "1", "2", "3", "4"}, []string{"100000", "1000", "10000000", "5000"}, []string{"3", "1", "12"}
	frozen := []string{"-", "-", "1", "2", "1,2", "3", "2,1", "1,1", "0"}
	tank, mass := []string{"0", "1", "0", "2"}, []string{"1", "100", "500", "33", "600"}
	minutes, start := []string{"0", "1", "2", "60", "300", "300"}, []string{"1000..1000", "1000..1000", "900..1500", "1000..1000,1000..1200", "-"}
	item := []string{"0", "1", "2", "3", "4", "5"}
	maps := []string{hexOf(8000, api.Pipe{Length: 1000, Bore: 20, Drop: 500}, api.Pipe{Parent: 1, Length: 400, Bore: 8, Drop: -30, Taps: 5}), hexOf(0), hexOf(6000, api.Pipe{Length: 1000, Bore: 10, Taps: 10}), "4d", "4d0200", "4d0200ffff"}
	return map[string][][]string{
		"taprules": {{"30..60", "0..10", "1..1"}, {"200..300", "1..5"}, {"3..8", "0..2", "1..100"}, {"400", "100", "1"}, {"600..1600", "0..5000"}, {"800:1,1500:2", "1:20", "-", "800:3"}, {"2,2,2,2,2", "20,20,20,20,20", "0,1,2,3,4", "2,2,2,2"}, {"5", "60", "20"}},
		"tree":     {name, {"20", "0", "18"}, {"1200..1260", "900..1000", "3000..3000"}, {"5..10", "0..0", "10..40"}, {"3", "0", "4"}},
		"hole":     {name, {"20", "22", "19", "24"}, {"0", "1800", "900", "3599"}, {"1000", "700", "1500"}},
		"taps":     {name, year}, "free": {name, year, height}, "drill": {name, year, height, {"0", "1", "2", "3"}},
		"rota": {name, year, {"0", "1", "2"}, {"1000", "1000,700", "600,1100,1600", "-"}, {"0", "1", "3", "5"}},

		"net": {name, {"8000", "10000", "0", "6000"}}, "load": {name, maps}, "map": {name},
		"pipe": {name, {"0", "1", "2", "3", "0", "1"}, {"1000", "400", "1", "300"}, {"20", "8", "10"}, {"500", "-30", "0", "100"}, {"0", "5", "4", "10"}},
		"flow": {name, node, {"5000..6000", "0..0", "4000..4000", "0..1000000"}}, "way": {name, node}, "loads": {name, frozen}, "vacuum": {name, frozen},
		"sensor": {name, node, {"7990..8000", "7960..7970", "0..10000", "7000..9000"}}, "places": {name, air, steps}, "next": {name, air, steps},

		"trail": {item, item, {"1", "4", "5", "6", "10000"}}, "walk": {item, {"-", "1", "2,3", "1,2,3", "4,5", "0,1,2,3,4,5"}}, "check": {name, air, steps, item},

		"thawrules": {{"-10", "0"}, {"20", "0"}, {"2", "5", "0"}, {"5", "60"}, {"1", "0"}, {"3", "10"}, {"2", "1", "0"}, {"500..800", "0..0", "10..100000"}, {"1", "100", "0"}},
		"weather":   {{"-30..-5", "50..50", "-", "-100..-50,-30..20,30..60", "50..60,-20..40", "10..10,30..30,-50..-20,70..80"}}, "runs": {}, "daily": {}, "begin": {}, "crop": {name},

		"tanks": {{"0:10,100:50,200:300", "-600:0,600:100"}, {"1000", "1"}, {"1..2", "0..0"}, {"1000,500", "1000,500,2000", "1000000"}},
		"pour":  {tank, {"490+10", "294+6", "0+1", "97+3"}, {"100..200", "0..15", "900..1100"}}, "draw": {tank, mass}, "move": {tank, {"1", "0", "2"}, mass}, "dump": {tank}, "wash": {tank},
		"stay": {{"10", "0", "1", "100"}, {"40..60", "0..100", "150..150"}}, "tank": {tank}, "cellar": {}, "rounds": {{"900+100", "0+0", "1000+1"}, {"5000", "0", "10000"}, {"200", "0", "10000"}, {"0", "1", "3", "200"}},

		"pan": {{"1000", "500"}, {"2000", "1500"}, {"50", "0"}, {"100", "60"}, {"30", "0"}, {"60", "40"}, {"800", "0", "450"}, {"3000", "2500"}},
		"act": {{"0", "0", "0", "1"}, {"1", "1", "2", "3", "4", "5"}, {"0", "0", "0", "1"}, {"100", "0", "80", "50"}}, "levels": {minutes, start}, "dry": {minutes, start}, "hottest": {minutes, start},

		"grades": {{"0:-50,200:0,400:100"}, {"6600..6890", "0..10000"}, {"2", "1"}, {"100", "0", "30000"}, {"300", "0"}}, "class": {{"750", "500", "250", "0"}, {"1..3", "2..5", "3..9", "1..9"}, {"900", "800", "700"}},
		"barrel": {{"a", "b"}, {"30000", "1000", "200"}, {"2000", "200"}, {"6640..6650", "6600..6900"}, {"180..220", "200..200"}, {"740..760", "600..700", "0..1000", "800..800"}}, "taster": {name, {"2..2", "3..4", "3..3", "1..9"}, {"0", "0", "1"}, {"0", "1", "3"}}, "grade": {name}, "worth": {name},
		"gather": {{"1000", "500", "7"}}, "make": {{"0:600", "0:100,1:200", "2:10", "2:10,0:10", "3:1,4:1,5:1", "1:1,1:1"}, {"50", "10", "1", "2", "700"}}, "trace": {item}, "recall": {item}, "amount": {item, item},

		"outlook": {{"2", "1", "120"}}, "scenario": {{"1", "3", "100"}, {"0,10,4,0", "6,0,0,9", "1,1,1,1", "5"}}, "tapday": {}, "mean": {},
		"poolrules": {{"900,800,700", "1000", "5,4,3,2,1,0,7,8"}, {"100", "0"}, {"600", "0"}, {"100000", "0"}, {"50", "0"}, {"1000", "0", "10000"}, {"5000", "0"}, {"2", "20"}, {"20", "0"}, {"1", "255"}, {"3", "255"}},
		"member":    {{"50000", "30000", "0"}, {"20000", "0"}, {"plain", "organic", "plain", "organic", "Organic", "other"}}, "deliver": {{"0", "1", "2"}, {"0", "1", "2"}, {"40000", "30000", "1"}},
		"organic": {{"0", "1", "2"}, {"0", "1", "2"}, {"40000", "30000", "1"}, {"100", "1000000"}, {"200", "201", "0"}, {"20", "19", "100"}, {"1", "0", "255"}, {"3", "0", "255"}}, "bring": {{"0", "1", "0", "2"}, {"a", "b", "keg", "sure", "sure"}}, "settle": {{"84000", "0", "1000000000000"}},

		"candyrules": {{"0:0,6600:40,8600:180,9500:300"}, {"0:6400,1000:8300"}, {"995..1005", "1000..1000"}}, "product": {{"8400..8700", "8500..9000", "1..10000"}, {"0..300", "600..1000", "-2000..2000"}, {"15..60", "2..6", "0..1000"}, {"0", "10"}, {"90", "40"}},
		"batch": {{"2000+4000", "970+30", "0+5"}}, "cook": {{"1180..1180", "1130..1135", "1000..1190", "1050..1100"}}, "cool": {{"200..250", "900..1000", "20..20"}}, "stir": {{"20..20", "2..3", "1000..1000", "0..0"}}, "seed": {{"0", "5", "10", "1000000"}}, "become": {}, "yield": {},
		"entry": {{"1", "1", "2", "3"}, {"1", "1", "2", "3", "4", "5", "6"}, {"3", "0", "1", "2", "10", "99"}, {"0", "30", "100", "1", "2"}, {"980+20", "0+0", "0+0", "1000+1000"}}, "state": {}, "seal": {}, "book": {},
	}
}

// hostile are words at the limits and beyond them, and words of many forms.
func hostile() []string {
	l := []string{"", "-", "a", "organic", "plain", "x1", "abcdefghijkl", "abcdefghijklm", "00", "0g", "+1", "-0", "01", ",", "1,", "1..", "..1", "1...2", "1:", ":", "+", "1+", "1,,2", "é", "9999999999999999999999", "1000000000000001", "-1000000000000001"}
	for _, n := range []int{-1000000000000000, -1000000001, -601, -2, -1, 0, 1, 2, 3, 4, 5, 6, 7, 20, 21, 40, 41, 60, 61, 100, 101, 120, 121, 200, 300, 301, 365, 366, 600, 1000, 1001, 3599, 3600, 5000, 5001, 9999, 10000, 10001, 100000, 100001, 1000000, 1000001, 10000000, 10000001, 1000000000, 1000000001, 1000000000000, 1000000000001, 1000000000000000} {
		l = append(l, fmt.Sprint(n), fmt.Sprintf("%d..%d", n, n), fmt.Sprintf("0..%d", n), fmt.Sprintf("%d..0", n), fmt.Sprintf("%d+1", n), fmt.Sprintf("0+%d", n), fmt.Sprintf("0:%d", n), fmt.Sprintf("%d:1,%d:2", n, n+1), fmt.Sprintf("%d,%d", n, n))
	}
	return l
}

// anyLine returns a line with one of some commands, most of which have usual words.
func anyLine(d *rand.Rand, words map[string][][]string, hostile []string, commands ...string) string {
	line := []string{anyOf(d, commands...)}
	for _, pool := range words[line[0]] {
		line = append(line, anyOf(d, pool...))
	}
	switch at := 1 + d.IntN(len(line)); d.IntN(12) {
	case 0:
		if at < len(line) {
			line[at] = anyOf(d, hostile...)
		}
	case 1:
		if d.IntN(4) == 0 {
			line = slices.Insert(line, at, anyOf(d, hostile...))
		}
	case 2:
		if d.IntN(4) == 0 {
			line = slices.Delete(line, at-1, at)
		}
	}
	return strings.Join(line, " ")
}

// tables returns the commands of each table; two of them together can be asked about both.
func tables() [][]string {
	return [][]string{
		{"taprules", "tree", "tree", "hole", "taps", "free", "drill", "drill", "rota"},
		{"net", "net", "pipe", "pipe", "pipe", "pipe", "flow", "flow", "way", "loads", "vacuum", "map", "load", "sensor", "sensor", "places", "next", "trail", "trail", "trail", "walk", "check", "check", "crop"},
		{"thawrules", "weather", "weather", "runs", "daily", "begin", "crop", "net", "pipe", "pipe", "pipe", "flow"},
		{"tanks", "pour", "pour", "pour", "draw", "move", "dump", "wash", "stay", "tank", "cellar", "rounds"},
		{"pan", "act", "act", "levels", "levels", "dry", "dry", "dry", "dry", "hottest"},
		{"grades", "class", "barrel", "taster", "taster", "grade", "worth", "bring", "bring", "bring", "bring", "poolrules", "member", "deliver"},
		{"gather", "gather", "make", "make", "trace", "recall", "amount"},
		{"outlook", "scenario", "scenario", "tapday", "mean"},
		{"poolrules", "member", "deliver", "organic", "settle"},
		{"candyrules", "product", "product", "batch", "cook", "cook", "cool", "stir", "seed", "become", "become", "yield"},
		{"entry", "entry", "entry", "entry", "state", "seal", "book"},
	}
}
