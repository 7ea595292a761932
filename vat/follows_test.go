package vat_test

import (
	"fmt"
	"testing"

	"spile/api"
	"spile/vat"
)

// TestP6_2To7Definitions does the same to cellars and to those by the definitions, and shows that what is refused changes nothing.
func TestP6_2To7Definitions(t *testing.T) {
	d := dice()
	seen := map[string]int{}
	for range 400 {
		c, k := anyCellars(t, d)
		tanks := len(k.sizes)
		var done []string
		for range pick(d, 1, 300) {
			x := anyStep(d, tanks, k.rules.Growth)
			before := account(c, tanks)
			got, e := x.do(c)
			want, wantErr := x.do(k)
			done = append(done, fmt.Sprint(x.name, " ", want, wantErr))
			after := account(c, tanks)
			if got != want || e != wantErr || after != account(k, tanks) {
				t.Fatal(k.rules, k.sizes, done, "not", got, e, after)
			}
			if e != api.OK && after != before {
				t.Fatal("what is refused has changed something:", done, before, after)
			}
			seen[fmt.Sprint(x.name, " ", e)]++
		}
		drain(t, c, k)
	}
	for _, what := range []string{"Pour 0", "Pour 2", "Pour 7", "Pour 8", "Draw 0", "Draw 3", "Draw 7", "Move 0", "Move 2", "Move 3", "Move 7", "Move 8", "Dump 0", "Dump 7", "Dump 9", "Wash 0", "Wash 7", "Wash 9", "Stay 0", "Stay 2", "Stay 3"} {
		if seen[what] < 20 {
			t.Error("too few:", what, seen[what])
		}
	}
}

// drain draws all lots, one after another.
func drain(t *testing.T, c *vat.Cellar, k *store) {
	t.Helper()
	for tank := range k.sizes {
		for _, i := range k.of(tank) {
			m := mass(k.lots[i].sap)
			want, wantErr := k.Draw(tank, m)
			sameDraw(t, c, tank, m, want, wantErr)
		}
	}
}

// TestP6_11EveryGram also shows what is drawn, lost and held, by what the calls return.
func TestP6_11EveryGram(t *testing.T) {
	d := dice()
	for range 300 {
		c, k := anyCellars(t, d)
		var in, out, lost api.Sap
		for range 200 {
			tank, other, m := d.IntN(len(k.sizes)), d.IntN(len(k.sizes)), pick(d, 1, 9)
			switch a := s(pick(d, 0, 9), pick(d, 0, 9)); d.IntN(5) {
			case 0, 1:
				if c.Pour(tank, a, r(0, 0)) == api.OK {
					in = add(in, a)
				}
			case 2:
				x, _ := c.Draw(tank, m)
				out = add(out, x.Sap)
			case 3:
				c.Move(tank, other, m)
			default:
				if m == 1 {
					x, _ := c.Dump(tank)
					lost = add(lost, x)
				}
			}
			var held api.Sap
			for tank := range k.sizes {
				told, _ := c.Tell(tank)
				held = add(held, told.Sap)
			}
			if in != add(out, lost, held) {
				t.Fatal("not every gram:", in, out, lost, held)
			}
			sameBook(t, c, in, out, lost, held)
		}
	}
}

func TestP6_11Rounds(t *testing.T) {
	d := dice()
	for range 5000 {
		a, take, pass, n := s(anyAmount(d, ton), anyAmount(d, ton)), pick(d, 0, 10000), pick(d, 0, 10000), anyAmount(d, 200)
		kept, gone, e := vat.Rounds(a, take, pass, n)
		same(t, fmt.Sprint("Rounds ", a, take, pass, n), add(kept, gone), e, a, api.OK)
		if min(kept.Water, kept.Sugar, gone.Water, gone.Sugar) < 0 {
			t.Fatal("less than nothing:", kept, gone)
		}
		kept, gone, e = vat.Squeeze(a, take, pass)
		same(t, fmt.Sprint("Squeeze ", a, take, pass), add(kept, gone), e, a, api.OK)
	}
}

func TestP6_12OldestFirst(t *testing.T) {
	d := dice()
	drew := 0
	for range 300 {
		c, k := anyCellars(t, d)
		for range 200 {
			x := anyStep(d, len(k.sizes), k.rules.Growth)
			x.do(c)
			tank := d.IntN(len(k.sizes))
			if d.IntN(4) > 0 {
				continue
			}
			what, e := c.Draw(tank, pick(d, 1, 12))
			told, _ := c.Tell(tank)
			if e == api.OK && told.Lots > 0 {
				drew++
				if what.Age.Low < told.Age.High {
					t.Fatal("older sap stays:", what, told)
				}
			}
		}
	}
	if drew < 1000 {
		t.Error("too few draws:", drew)
	}
}

// TestP6_12LoadsNeverFall follows one lot through tanks.
func TestP6_12LoadsNeverFall(t *testing.T) {
	d := dice()
	for range 300 {
		l := anyRules(d)
		c := newCellar(t, l, 10, 10, 10)
		stay(t, c, pick(d, 0, 50), anyHours(d, l.Growth, 1)[0])
		pour(t, c, 0, s(9, 1), pickRange(d, 0, 300))
		tank, before := 0, r(0, 0)
		for range 30 {
			switch d.IntN(3) {
			case 0:
				stay(t, c, pick(d, 0, 5), anyHours(d, l.Growth, 1)[0])
			case 1:
				next := (tank + pick(d, 1, 2)) % 3
				sameErr(t, "Move", c.Move(tank, next, 10), api.OK)
				tank = next
			default:
				c.Wash(d.IntN(3))
			}
			told, e := c.Tell(tank)
			if e != api.OK || told.Lots != 1 || told.Load.Low < before.Low || told.Load.High < before.High || told.Load.Low > told.Load.High {
				t.Fatal("a load falls:", before, told, e)
			}
			before = told.Load
		}
	}
}

// TestP6_12Truths does the same to a cellar of which all is known within ranges, and to one in which all is what truly happens.
func TestP6_12Truths(t *testing.T) {
	d := dice()
	for range 200 {
		l := anyRules(d)
		truly := l
		truly.Film = one(pick(d, l.Film.Low, l.Film.High))
		c, truth := newCellar(t, l, 200, 100), newCellar(t, truly, 200, 100)
		for range 100 {
			tank, m := d.IntN(2), pick(d, 1, 20)
			switch d.IntN(6) {
			case 0, 1:
				a, load := s(pick(d, 0, 9), pick(d, 1, 9)), pickRange(d, 0, 300)
				sameErr(t, "Pour", truth.Pour(tank, a, one(pick(d, load.Low, load.High))), c.Pour(tank, a, load))
			case 2:
				hours, temperature := pick(d, 0, 5), anyHours(d, l.Growth, 1)[0]
				stay(t, c, hours, temperature)
				for range hours {
					stay(t, truth, 1, one(pick(d, temperature.Low, temperature.High)))
				}
			case 3:
				sameErr(t, "Move", truth.Move(tank, 1-tank, m), c.Move(tank, 1-tank, m))
			case 4:
				sameErr(t, "Wash", truth.Wash(tank), c.Wash(tank))
			default:
				all, e := c.Draw(tank, m)
				really, f := truth.Draw(tank, m)
				if e != f || all.Sap != really.Sap || all.Age != really.Age || !inside(really.Load, all.Load) {
					t.Fatal("the truth is outside of what is drawn:", all, really, e, f)
				}
			}
			for tank := range 2 {
				told, _ := c.Tell(tank)
				really, _ := truth.Tell(tank)
				if told.Sap != really.Sap || told.Lots != really.Lots || !inside(really.Load, told.Load) || !inside(really.Film, told.Film) || told.Surely > really.Surely || told.Possibly < really.Possibly {
					t.Fatal("the truth is outside:", told, really)
				}
			}
		}
	}
}

func TestP6_13Rounds(t *testing.T) {
	d := dice()
	for range 5000 {
		a, take, pass := s(anyAmount(d, ton), anyAmount(d, ton)), anyAmount(d, 10000), anyAmount(d, 10000)
		x := pick(d, 0, 100)
		y := pick(d, 0, 200-x)
		kept, gone, _ := vat.Rounds(a, take, pass, x)
		rest, more, _ := vat.Rounds(kept, take, pass, y)
		sameRounds(t, "together", a, take, pass, x+y, [2]api.Sap{rest, add(gone, more)}, api.OK)
		if min(more.Water, more.Sugar) < 0 {
			t.Fatal("less has gone:", a, take, pass, x, y)
		}
		for range min(x, 5) {
			a, _, _ = vat.Squeeze(a, take, pass)
		}
		if x <= 5 && a != kept {
			t.Fatal("single rounds:", a, kept)
		}
	}
}

// TestP6Examples has those of the chapter, and that of the document.
func TestP6Examples(t *testing.T) {
	c := usualCellar(t)
	pour(t, c, 0, s(490, 10), r(100, 200))
	stay(t, c, 10, r(40, 60))
	sameTank(t, c, 0, api.Tank{Sap: s(490, 10), Lots: 1, Load: r(360, 540), Age: one(10), Film: r(10, 20)})
	pour(t, c, 0, s(294, 6), r(0, 15))
	sameTank(t, c, 0, api.Tank{Sap: s(784, 16), Lots: 2, Load: r(10, 540), Age: r(0, 10), Film: r(10, 20)})
	sameDraw(t, c, 0, 600, drawn(s(588, 12), r(10, 540), r(0, 10)), api.OK)
	sameTank(t, c, 0, api.Tank{Sap: s(196, 4), Lots: 1, Load: r(10, 20), Film: r(10, 20)})
	sameErr(t, "Move", c.Move(0, 1, 100), api.OK)
	sameTank(t, c, 0, api.Tank{Sap: s(98, 2), Lots: 1, Load: r(10, 20), Film: r(10, 20)})
	sameTank(t, c, 1, api.Tank{Sap: s(98, 2), Lots: 1, Load: r(10, 20), Film: r(10, 20)})
	sameBook(t, c, s(784, 16), s(588, 12), s(0, 0), s(196, 4))
	sameSqueeze(t, s(900, 100), 5000, 200, [2]api.Sap{s(450, 99), s(450, 1)}, api.OK)
	for pass, kept := range map[int][]api.Sap{0: {s(900, 100), s(450, 100), s(225, 100)}, 200: {s(900, 100), s(450, 99), s(225, 99)}} {
		for n, want := range kept {
			sameRounds(t, "of the example", s(900, 100), 5000, pass, n, [2]api.Sap{want, s(900-want.Water, 100-want.Sugar)}, api.OK)
		}
	}
	sameReach(t, s(900, 100), 5000, r(0, 200), 2000, 200, one(2), api.OK)
}
