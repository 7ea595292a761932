package maker_test

import (
	"fmt"
	"strings"
	"testing"

	"spile/api"
	"spile/maker"
)

// TestP13_1Tanks shows that the cellar is set once, and that everything that needs it asks for it first.
func TestP13_1Tanks(t *testing.T) {
	m := maker.New()
	for _, s := range []string{"pour 0 490+10 100..200", "pour 9 0+0 2..1", "draw 0 1", "draw 9 0", "move 0 1 1", "move 0 0 0", "dump 0", "wash 0", "stay 1 40..60", "stay -1 2..1", "tank 0", "tank 9", "cellar"} {
		told(t, m, s+" => ErrState")
	}
	told(t, m, `
		tanks 0:10 1000 1..2 1000,500 => ErrArg
		tanks - 1000 1..2 1000,500 => ErrArg
		tanks 0:10,100:50,200:300 0 1..2 1000,500 => ErrArg
		tanks 0:10,100:50,200:300 1000 2..1 1000,500 => ErrArg
		tanks 0:10,100:50,200:300 1000 1..2 - => ErrForm
		tanks 0:10,100:50,200:300 1000 1..2 0 => ErrRange
		tanks 0:10,100:50,200:300 1000 1..2 1000,1000000001 => ErrRange
		cellar => ErrState
		tanks 0:10,100:50,200:300 1000 1..2 1000,500 => ok
		tanks 0:10,100:50,200:300 1000 1..2 1000,500 => ErrState
		tanks - 0 2..1 - => ErrState
		tank 0 => 0+0 0 0..0 0..0 0 0
		tank 1 => 0+0 0 0..0 0..0 0 0
		tank 2 => ErrNone
		cellar => 0+0 0+0 0+0 0+0
	`)
	told(t, maker.New(), "tanks 0:10,100:50,200:300 1000 1..2 "+strings.TrimSuffix(strings.Repeat("5,", 21), ",")+" => ErrForm\ntanks 0:10,100:50,200:300 1000 1..2 "+strings.TrimSuffix(strings.Repeat("5,", 20), ",")+" => ok\ntank 19 => 0+0 0 0..0 0..0 0 0\ntank 20 => ErrNone")
}

// TestP13_1Cellar shows all that is done with the cellar, with the errors of its methods.
func TestP13_1Cellar(t *testing.T) {
	told(t, after(t, tankLines()[0]), `
		pour 2 490+10 100..200 => ErrNone
		pour -1 490+10 100..200 => ErrNone
		pour 0 -1+10 100..200 => ErrArg
		pour 0 0+0 100..200 => ErrArg
		pour 0 490+10 200..100 => ErrArg
		pour 0 490+10 0..1000001 => ErrArg
		pour 1 490+11 100..200 => ErrFull
		pour 0 490+10 100..200 => ok
		stay 10 40..60 => ok
		tank 0 => 490+10 1 360..540 10..20 0 0
		stay -1 40..60 => ErrRange
		stay 999991 40..60 => ErrRange
		stay 10 60..40 => ErrArg
		stay 10 -1..60 => ErrRange
		pour 0 294+6 0..15 => ok
		tank 0 => 784+16 2 10..540 10..20 0 0
		draw 2 1 => ErrNone
		draw 0 0 => ErrRange
		draw 0 801 => ErrRange
		draw 0 600 => 588+12 10..540 0..10
		tank 0 => 196+4 1 10..20 10..20 0 0
		move 0 2 1 => ErrNone
		move 0 0 1 => ErrArg
		move 0 1 201 => ErrRange
		move 0 1 100 => ok
		tank 1 => 98+2 1 10..20 10..20 0 0
		dump 2 => ErrNone
		wash 2 => ErrNone
		wash 0 => ErrState
		dump 0 => 98+2
		dump 0 => ErrState
		wash 0 => ok
		tank 0 => 0+0 0 0..0 0..0 0 0
		tank 1 => 98+2 1 10..20 10..20 0 0
		cellar => 784+16 588+12 98+2 98+2
		stay 4 200..200 => ok
		tank 1 => 98+2 1 1210..1220 14..28 1 1
		tank 0 => 0+0 0 0..0 4..8 0 0
		pour 0 10+0 990..1005 => ok
		tank 0 => 10+0 1 990..1005 4..8 1 0
		draw 1 100 => 98+2 1210..1220 4..4
	`)
}

// TestP13_1Rounds shows the membrane, which needs no cellar.
func TestP13_1Rounds(t *testing.T) {
	told(t, maker.New(), `
		rounds 900+100 5000 200 1 => 450+99 450+1
		rounds 900+100 5000 200 0 => 900+100 0+0
		rounds 900+100 5000 0 2 => 225+100 675+0
		rounds -1+100 5000 200 1 => ErrArg
		rounds 900+100 10001 200 1 => ErrRange
		rounds 900+100 5000 10001 1 => ErrRange
		rounds 900+100 5000 200 201 => ErrRange
		rounds 900+100 5000 200 -1 => ErrRange
		rounds 900+1000000000001 10001 200 1 => ErrArg
	`)
}

// TestP13_4Cellar shows that In is Out, Lost and Held together, whatever is done.
func TestP13_4Cellar(t *testing.T) {
	d := dice()
	for range 100 {
		m := after(t, "tanks -600:0,600:100 1000 1..2 1000,500,2000")
		done := 0
		for range 100 {
			line := anyLine(d, usual(), hostile(), "pour", "draw", "move", "dump", "wash", "stay")
			if _, e := m.Line(line); e == api.OK {
				done++
			}
			var in, out, lost, held api.Sap
			text := say(m, "cellar")
			if n, _ := fmt.Sscanf(text, "%d+%d %d+%d %d+%d %d+%d", &in.Water, &in.Sugar, &out.Water, &out.Sugar, &lost.Water, &lost.Sugar, &held.Water, &held.Sugar); n != 8 {
				t.Fatal(text)
			}
			if in.Water != out.Water+lost.Water+held.Water || in.Sugar != out.Sugar+lost.Sugar+held.Sugar {
				t.Fatal(line, text)
			}
		}
		if done < 10 {
			t.Error(done)
		}
	}
}
