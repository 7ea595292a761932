package maker_test

import (
	"fmt"
	"testing"

	"spile/maker"
)

// TestP13_1Outlook shows the outlook, its scenarios, and the day of tapping.
func TestP13_1Outlook(t *testing.T) {
	told(t, maker.New(), `
		scenario 1 0,10,4,0 => ErrState
		scenario 0 - => ErrState
		tapday => ErrState
		mean => ErrState
		outlook 0 => ErrRange
		outlook 121 => ErrRange
		outlook -1 => ErrRange
		tapday => ErrState
		outlook 2 => ok
		outlook 2 => ErrState
		outlook 0 => ErrState
		tapday => ErrArg
		mean => ErrArg
		scenario 0 0,10,4,0 => ErrArg
		scenario 101 0,10,4,0 => ErrArg
		scenario 1 - => ErrArg
		scenario 1 0,10,4,-1 => ErrArg
		scenario 1 0,10,4,1000001 => ErrArg
		tapday => ErrArg
		scenario 1 0,10,4,0 => 1
		tapday => 1 0
		mean => 1 0
		scenario 3 6,0,0 => ErrArg
		scenario 3 6,0,0,9,1 => ErrArg
		scenario 3 6,0,0,9 => 2
		tapday => 0 4
		mean => 2 10
	`)
	told(t, maker.New(), "outlook 120 => ok\nscenario 1 1,2,3 => 1\ntapday => 0 0\nmean => 0 0")
	told(t, maker.New(), "outlook 1 => ok\nscenario 100 1,3,2 => 1\ntapday => 1 0\nmean => 1 0\nscenario 1 9,3,3 => 2\ntapday => 0 2\nmean => 1 6")
	m := after(t, "outlook 1")
	for i := range 20 {
		told(t, m, fmt.Sprintf("scenario 1 %d,7 => %d", i, i+1))
	}
	told(t, m, "scenario 1 1,7 => ErrArg\ntapday => 0 7")
}
