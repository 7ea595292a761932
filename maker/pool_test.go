package maker_test

import (
	"fmt"
	"slices"
	"testing"

	"spile/maker"
)

// TestP13_1Pool shows the rules, which are set once, members, deliveries, and what is paid.
func TestP13_1Pool(t *testing.T) {
	told(t, maker.New(), `
		member 50000 20000 plain => ErrState
		member 50000 20000 other => ErrState
		member -1 -1 plain => ErrState
		deliver 0 0 40000 => ErrState
		organic 0 0 40000 100 200 20 1 3 => ErrState
		settle 84000 => ErrState
		settle -1 => ErrState
		poolrules - 100 600 100000 50 1000 5000 2 20 1 3 => ErrArg
		poolrules 1,2,3,4,5,6,7,8,9 100 600 100000 50 1000 5000 2 20 1 3 => ErrArg
		poolrules 900,800,700 1000001 600 100000 50 1000 5000 2 20 1 3 => ErrArg
		poolrules 900,800,700 100 1000001 100000 50 1000 5000 2 20 1 3 => ErrArg
		poolrules 900,800,700 100 600 10000000001 50 1000 5000 2 20 1 3 => ErrArg
		poolrules 900,800,700 100 600 100000 1000001 1000 5000 2 20 1 3 => ErrArg
		poolrules 900,800,700 100 600 100000 50 10001 5000 2 20 1 3 => ErrArg
		poolrules 900,800,700 100 600 100000 50 1000 10001 2 20 1 3 => ErrArg
		poolrules 900,800,700 100 600 100000 50 1000 5000 21 20 1 3 => ErrArg
		poolrules 900,800,700 100 600 100000 50 1000 5000 2 101 1 3 => ErrArg
		poolrules 900,800,700 100 600 100000 50 1000 5000 2 20 256 3 => ErrArg
		poolrules 900,800,700 100 600 100000 50 1000 5000 2 20 1 256 => ErrArg
		settle 84000 => ErrState
		poolrules 900,800,700 100 600 100000 50 1000 5000 2 20 1 3 => ok
		poolrules 900,800,700 100 600 100000 50 1000 5000 2 20 1 3 => ErrState
		poolrules - 100 600 100000 50 1000 5000 2 20 1 3 => ErrState
		settle 84000 => - 75600
		settle -1 => ErrRange
		member 50000 20000 other => ErrForm
		member 50000 20000 Plain => ErrForm
		member 50000 20000 plainly => ErrForm
		member 50000 20000 - => ErrForm
		member -1 20000 other => ErrForm
		member -1 20000 plain => ErrArg
		member 50000 100000001 organic => ErrArg
		deliver 0 0 40000 => ErrNone
		member 50000 20000 plain => 1
		member 30000 0 organic => 2
		deliver 0 0 40000 => 1
		organic 1 0 30000 100 200 20 1 3 => 2
		deliver 1 1 30000 => 3
		deliver 2 3 0 => ErrNone
		deliver 0 3 1 => ErrArg
		deliver 0 -1 1 => ErrArg
		deliver 0 0 0 => ErrArg
		deliver 0 0 100000001 => ErrArg
		deliver 0 0 99960001 => ErrOver
		organic 2 0 1 -1 0 0 0 0 => ErrNone
		organic 1 0 1 1000001 0 0 0 0 => ErrArg
		organic 1 0 1 0 1000001 0 0 0 => ErrArg
		organic 1 0 1 0 0 101 0 0 => ErrArg
		organic 1 0 1 0 0 0 256 0 => ErrArg
		organic 1 0 1 0 0 0 0 256 => ErrArg
		settle 84000 => 17200,12400 0
		settle 1000000000001 => ErrRange
		settle 0 => -26000,-20000 0
	`)
}

// TestP13_1Practice shows that a delivery is organic only if its member is, and if its practice keeps all rules; all else is as in the chapter's example.
func TestP13_1Practice(t *testing.T) {
	for line, organic := range map[string]bool{
		"organic 1 0 30000 100 200 20 1 3": true, "organic 1 0 30000 100 0 100 0 0": true, "organic 1 0 30000 100 200 20 0 1": true,
		"organic 1 0 30000 100 201 20 1 3": false, "organic 1 0 30000 99 200 20 1 3": false, "organic 1 0 30000 100 200 19 1 3": false,
		"organic 1 0 30000 100 200 20 3 3": false, "organic 1 0 30000 100 200 20 2 3": false, "organic 1 0 30000 100 200 20 1 7": false, "deliver 1 0 30000": false,
	} {
		m := after(t, slices.Concat(poolLines()[:4], []string{line, "deliver 1 1 30000"})...)
		if got := say(m, "settle 84000"); (got == "17200,12400 0") != organic || (got == "18254,12346 0") == organic {
			t.Error(line, got)
		}
	}
}

// TestP13_1Members shows that there are at most 30 members and 300 deliveries.
func TestP13_1Members(t *testing.T) {
	m := after(t, poolLines()[0])
	for i := range 30 {
		told(t, m, fmt.Sprintf("member %d 0 plain => %d", i, i+1))
	}
	told(t, m, "member 0 0 plain => ErrLong\nmember -1 0 plain => ErrLong\nmember 0 0 other => ErrForm\ndeliver 29 0 1 => 1\ndeliver 30 0 1 => ErrNone")
	for i := range 299 {
		told(t, m, fmt.Sprintf("deliver %d 0 1 => %d", i%30, i+2))
	}
	told(t, m, "deliver 0 0 1 => ErrLong\norganic 0 0 1 1 1 1 1 1 => ErrLong\ndeliver 30 0 1 => ErrLong\ndeliver 30 0 x => ErrForm")
}

// TestP13_1Bring shows barrels that members deliver, with the errors of barrels and of the pool.
func TestP13_1Bring(t *testing.T) {
	told(t, maker.New(), `
		bring 0 sure => ErrNone
		barrel sure 30000 2000 6640..6650 180..220 600..700 => ok
		bring 0 sure => ErrState
		bring 0 new => ErrNone
		poolrules 900,800,700 100 600 100000 50 1000 5000 2 20 1 3 => ok
		bring 0 sure => ErrState
		bring 0 new => ErrNone
		grades 0:-50,200:0,400:100 6600..6890 2 100 300 => ok
		bring 0 sure => ErrArg
		class 750 1..3 900 => 1
		class 500 2..5 800 => 2
		class 250 3..9 700 => 3
		bring 0 sure => ErrArg
		taster sure 1..4 0 0 => 1
		grade sure => -1,1
		bring 0 sure => ErrState
		taster sure 3..3 0 0 => 2
		grade sure => -1,1
		taster sure 3..3 0 0 => 3
		grade sure => 1
		bring 0 sure => ErrNone
		member 50000 0 organic => 1
		bring 1 sure => ErrNone
		deliver 0 0 100000000 => 1
		bring 0 sure => ErrOver
		member 50000 0 plain => 2
		bring 1 sure => 2
		bring 1 sure => ErrTwice
		bring 0 sure => ErrTwice
		bring 9 sure => ErrTwice
		bring 1 new => ErrNone
		taster sure 3..3 255 255 => 4
		bring 1 sure => ErrTwice
	`)
	// The rules of barrels alone are not enough.
	told(t, after(t, barrelLines()...), "bring 0 sure => ErrState\ngrade sure => 1")
	// Barrels of several grades, of none, without a temperature that is known, with more tare than gross, and of nothing.
	told(t, after(t, slices.Concat(barrelLines(), poolLines()[:3], []string{
		"barrel none 30000 2000 6640..6650 180..220 600..700", "taster none 9..9 0 0",
		"barrel cold 30000 2000 6640..6650 -9..220 600..700", "taster cold 3..3 0 0",
		"barrel light 2000 30000 6640..6650 180..220 600..700", "taster light 3..3 0 0",
		"barrel empty 2200 2000 6640..6650 180..220 600..700", "taster empty 3..3 0 0",
		"barrel little 2201 2000 6640..6650 180..220 600..700", "taster little 3..3 0 0",
		"barrel doubt 2000 30000 6640..6650 180..220 700..760", "taster doubt 3..3 0 0",
	})...), `
		grade keg => 0,1
		bring 0 keg => ErrState
		grade none => -1
		bring 0 none => ErrState
		bring 0 cold => ErrRange
		bring 0 light => ErrState
		bring 0 doubt => ErrState
		bring 0 empty => ErrArg
		bring 9 empty => ErrNone
		bring 0 little => 1
		bring 0 empty => ErrArg
		bring 1 sure => 2
		settle 84000 => 20496,36594 0
	`)
	// A grade that the pool does not know.
	told(t, after(t, slices.Concat(barrelLines(), []string{"poolrules 900 100 600 100000 50 1000 5000 2 20 1 3", "member 50000 20000 plain"})...), "grade sure => 1\nbring 0 sure => ErrArg")
}
