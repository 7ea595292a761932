package maker_test

import (
	"fmt"
	"testing"

	"spile/maker"
)

// TestP13_1Pans shows pans and their errors.
func TestP13_1Pans(t *testing.T) {
	m := maker.New()
	told(t, m, `
		levels 0 - => ErrArg
		dry 300 - => ErrArg
		hottest 300 - => ErrArg
		pan 2000 1000 50 100 30 60 800 3000 => ErrArg
		pan 1000 2000 101 100 30 60 800 3000 => ErrArg
		pan 1000 2000 50 1001 30 60 800 3000 => ErrArg
		pan 1000 2000 50 100 61 60 800 3000 => ErrArg
		pan 1000 2000 50 100 30 100001 800 3000 => ErrArg
		pan 1000 2000 50 100 30 60 1001 3000 => ErrArg
		pan 1000 2000 50 100 30 60 800 1000001 => ErrArg
		pan 1000 2000 50 100 30 60 800 3000 => 1
		levels 0 1000..1000 => -
		levels 1 1000..1000 => 1000..1100
		levels 0 - => ErrForm
		levels 0 1000..1000,1000..1000 => ErrForm
		levels 0 2..1 => ErrArg
		levels 0 0..3001 => ErrArg
		levels -1 1000..1000 => ErrArg
		levels 301 1000..1000 => ErrArg
		levels 301 - => ErrArg
		hottest 300 1000..1000 => 83
		hottest 300 - => ErrForm
		hottest 300 700..1000 => ErrNone
		hottest 0 700..1000 => 100
		dry 300 1000..1000 => ErrNone
		dry 300 - => ErrForm
		act 0 1 0 100 => 1
		levels 1 1000..1000 => 940..1070
		levels 2 1000..1000 => 930..1140
		levels 0 1000..1000 => ErrArg
		dry 300 1000..1000 => 0 15
		dry 15 1000..1000 => ErrNone
		hottest 300 1000..1000 => ErrForm
		hottest 0 1000..1000 => ErrArg
		pan 1000 2000 50 100 30 60 800 3000 => 2
		dry 300 1000..1000 => ErrForm
		dry 300 1000..1000,800..800 => 1 0
		dry 300 1000..1000,1000..1000 => 0 15
		dry 300 1100..1100,1000..1000 => 1 15
		levels 2 1000..1000,2000..2000 => 930..1140,1880..2040
	`)
}

// TestP13_1Acts shows acts, which are looked at where they are used.
func TestP13_1Acts(t *testing.T) {
	told(t, after(t, "pan 1000 2000 50 100 30 60 800 3000", "pan 1000 2000 50 100 30 60 800 3000"), `
		act 0 4 0 0 => 1
		act 0 4 1 0 => 2
		act 1 2 0 500 => 3
		act 2 3 1 100 => 4
		levels 1 1000..1000,1000..1100 => ErrArg
		levels 3 1000..1000,1000..1100 => 500..500,1400..1500
		levels 3 400..1000,1000..1100 => ErrShort
		levels 3 1000..1000,1000..2501 => ErrSpill
		levels 2 1000..1000,1000..1100 => ErrArg
		act 2 5 0 0 => 5
		levels 3 1000..1000,1000..1100 => 550..600,1400..1500
		act 1 5 0 0 => 6
		levels 3 1000..1000,1000..1100 => ErrArg
		dry 3 1000..1000,1000..1100 => ErrArg
	`)
	told(t, after(t, panLines()...), "act 7 9 -3 1000000000000000 => 1\nact -1000000000000000 0 0 -5 => 2\nlevels 1 1000..1000 => ErrArg")
	told(t, maker.New(), "act 0 1 0 100 => 1\npan 1000 2000 50 100 30 60 800 3000 => 1\nlevels 1 1000..1000 => 940..1070")
}

// TestP13_1SixPans shows that there are at most 6 pans and 60 acts.
func TestP13_1SixPans(t *testing.T) {
	m := maker.New()
	for i := range 6 {
		told(t, m, fmt.Sprintf("pan 1000 2000 50 100 30 60 800 3000 => %d", i+1))
	}
	told(t, m, "pan 1000 2000 50 100 30 60 800 3000 => ErrFull\npan 2000 1000 50 100 30 60 800 3000 => ErrFull")
	for i := range 60 {
		told(t, m, fmt.Sprintf("act 0 1 0 %d => %d", i, i+1))
	}
	told(t, m, `
		act 0 1 0 60 => ErrFull
		act -1 9 9 -1 => ErrFull
		levels 1 1000..1000,1000..1000,1000..1000,1000..1000,1000..1000,1000..1000 => 964..1083,964..1083,964..1083,964..1083,964..1083,964..1083
	`)
}
