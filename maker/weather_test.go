package maker_test

import (
	"fmt"
	"strings"
	"testing"

	"spile/maker"
)

// TestP13_1Weather shows rules that are set once, hours, and when sap runs.
func TestP13_1Weather(t *testing.T) {
	told(t, maker.New(), `
		weather 50..50 => ErrState
		weather 50..-50 => ErrState
		weather - => ErrState
		runs => ErrState
		daily => ErrState
		begin => ErrState
		thawrules 21 20 2 5 1 3 2 500..800 1 => ErrArg
		thawrules -601 20 2 5 1 3 2 500..800 1 => ErrArg
		thawrules -10 601 2 5 1 3 2 500..800 1 => ErrArg
		thawrules -10 20 61 5 1 3 2 500..800 1 => ErrArg
		thawrules -10 20 2 61 1 3 2 500..800 1 => ErrArg
		thawrules -10 20 2 5 31 3 2 500..800 1 => ErrArg
		thawrules -10 20 2 5 1 31 2 500..800 1 => ErrArg
		thawrules -10 20 2 5 1 3 31 500..800 1 => ErrArg
		thawrules -10 20 2 5 1 3 2 800..500 1 => ErrArg
		thawrules -10 20 2 5 1 3 2 500..100001 1 => ErrArg
		thawrules -10 20 2 5 1 3 2 500..800 101 => ErrArg
		runs => ErrState
		thawrules -10 20 2 5 1 3 2 500..800 1 => ok
		thawrules -10 20 2 5 1 3 2 500..800 1 => ErrState
		thawrules 21 20 2 5 1 3 2 500..800 1 => ErrState
		runs => 0..0
		daily => -
		begin => -1 -1
		weather - => 0
		weather 50..-50 => ErrArg
		weather -601..0 => ErrArg
		weather 50..50,0..601 => ErrArg
		runs => 0..0
		weather -30..-5 => 1
		weather 50..50,50..50 => 3
		weather - => 3
		weather 50..50,50..50 => 5
		runs => 0..2
		daily => 0..2
		begin => 2 -1
	`)
}

// TestP13_1Days shows weather of several days, whose rules differ each by one number.
func TestP13_1Days(t *testing.T) {
	days := "weather " + strings.TrimSuffix(strings.Repeat("-30..-20,", 10)+strings.Repeat("50..60,", 20)+strings.Repeat("15..25,", 20), ",")
	for law, want := range map[string]string{
		"-10 20 2 5 1 3 2 500..800 1":  "12 12|5..5|5..5,0..0,0..0",
		"-31 20 2 5 1 3 2 500..800 1":  "-1 -1|0..0|0..0,0..0,0..0",
		"-25 20 2 5 1 3 2 500..800 1":  "11 -1|0..5|0..5,0..0,0..0",
		"-10 50 2 5 1 3 2 500..800 1":  "12 -1|0..5|0..5,0..5,0..0",
		"-10 20 1 60 1 3 2 500..800 1": "12 12|10..10|10..10,0..0,0..0",
		"-10 20 5 60 1 3 2 500..800 1": "12 12|18..38|12..12,6..24,0..2",
		"-10 20 2 9 1 3 2 500..800 1":  "12 12|9..9|9..9,0..0,0..0",
		"-10 20 2 5 0 3 2 500..800 1":  "10 10|5..5|5..5,0..0,0..0",
		"-10 20 2 5 1 9 2 500..800 1":  "15 15|5..5|5..5,0..0,0..0",
		"-10 20 2 5 1 3 1 500..800 1":  "13 13|5..5|5..5,0..0,0..0",
		"-10 20 2 5 1 3 0 500..800 1":  "-1 -1|0..0|0..0,0..0,0..0",
	} {
		m := maker.New()
		told(t, m, "thawrules "+law+" => ok\n"+days+" => 50")
		if got := say(m, "begin") + "|" + say(m, "runs") + "|" + say(m, "daily"); got != want {
			t.Error(law, got)
		}
	}
}

// TestP13_1ThousandHours shows that weather has at most 1000 hours.
func TestP13_1ThousandHours(t *testing.T) {
	m := after(t, weatherLines()[0])
	for i := range 4 {
		told(t, m, "weather 50..50"+strings.Repeat(",50..50", 248)+fmt.Sprint(" => ", 249*(i+1)))
	}
	told(t, m, `
		weather 0..0,0..0,0..0,0..0,0..0 => ErrLong
		weather 0..601,0..0,0..0,0..0,0..0 => ErrLong
		weather 0..601,0..0,0..0,0..0 => ErrArg
		weather 0..0,0..0,0..0,0..0 => 1000
		weather - => 1000
		weather 0..0 => ErrLong
		runs => 0..0
	`)
}

// TestP13_1Crop shows what the taps of tubing give in the weather, with the errors of the one and of the other.
func TestP13_1Crop(t *testing.T) {
	m := maker.New()
	told(t, m, `
		crop bush => ErrNone
		net bush 6000 => 1
		crop bush => ErrState
		crop new => ErrNone
		thawrules -10 20 2 5 1 3 2 500..800 1 => ok
		crop new => ErrNone
		crop bush => 0..0
		pipe bush 0 1000 10 0 10 => 2
		flow bush 1 0..1000000 => ok
		crop bush => 0..0
		weather -30..-5,50..50,50..50,50..50,50..50 => 5
		crop bush => 0..25600
		weather -30..-20,50..50,50..50,50..50 => 9
		runs => 2..4
		vacuum bush - => 6000..6000,5000..6000
		crop bush => 15000..51200
		pipe bush 0 1000 10 0 0 => 3
		crop bush => 15000..51200
		pipe bush 1 1000 10 0 1 => 4
		crop bush => 16500..56320
		net other 0 => 1
		crop other => 0..0
		pipe other 0 1000 10 0 1 => 2
		crop other => 1000..3200
	`)
}
