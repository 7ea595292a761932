package pan_test

import (
	"fmt"
	"math/big"
	"math/rand/v2"
	"testing"

	"spile/api"
	"spile/pan"
)

// known is what is given to Follow, and outcome what it returns.
type known struct {
	b    api.Boil
	pans []api.Sap
	feed api.Sap
	l    [][]api.PanMinute
}

type outcome struct {
	end         []api.Sap
	left, drawn api.Sap
	steam       int
	e           api.Errno
}

// saps returns a list of sap, and each one of what happens in each pan.
func saps(l ...api.Sap) []api.Sap { return l }

func each(l ...[]api.PanMinute) [][]api.PanMinute { return l }

// sameFollow asks Follow.
func sameFollow(t *testing.T, what string, k known, want outcome) {
	t.Helper()
	end, left, drawn, steam, e := pan.Follow(k.b, k.pans, k.feed, k.l)
	got := fmt.Sprint(outcome{end, left, drawn, steam, e})
	if got != fmt.Sprint(want) {
		t.Errorf("Follow: %s: %s; want %v", what, got, want)
	}
}

// part returns so many grams of sap by the definition of Draw.
func part(a api.Sap, grams int) api.Sap {
	if grams == 0 {
		return api.Sap{}
	}
	x := new(big.Int).Mul(big.NewInt(int64(a.Sugar)), big.NewInt(int64(grams)))
	sugar := int(x.Div(x, big.NewInt(int64(mass(a)))).Int64())
	return s(grams-sugar, sugar)
}

// less returns sap without a part of it.
func less(a, b api.Sap) api.Sap { return s(a.Water-b.Water, a.Sugar-b.Sugar) }

// byDefinition follows what is valid, by the definitions. It also returns where an error was found.
func (k known) byDefinition() (o outcome, where string) {
	now, closed, heat := append(saps(), k.pans...), make([]bool, len(k.pans)), 0
	o.left = k.feed
	for minute := range k.b.Minutes {
		for _, a := range k.b.Acts {
			switch {
			case a.Minute != minute:
			case a.Kind == api.PanFire:
				heat = a.Amount
			case a.Kind == api.PanShut, a.Kind == api.PanOpen:
				closed[a.Pan] = a.Kind == api.PanShut
			case mass(now[a.Pan]) < a.Amount:
				return outcome{e: api.ErrShort}, "act"
			default:
				x := part(now[a.Pan], a.Amount)
				now[a.Pan] = less(now[a.Pan], x)
				if a.Kind == api.PanDraw {
					o.drawn = add(o.drawn, x)
					continue
				}
				now[a.Pan+1] = add(now[a.Pan+1], x)
				if mass(now[a.Pan+1]) > k.b.Pans[a.Pan+1].Rim {
					return outcome{e: api.ErrSpill}, "act"
				}
			}
		}
		for i, p := range k.b.Pans {
			in := k.l[i][minute].In
			if least, most := letsIn(p, closed[i], mass(now[i])); in < least || in > most {
				return outcome{e: api.ErrState}, "in"
			}
			if in > mass(o.left) {
				return outcome{e: api.ErrNone}, "feed"
			}
			x := part(o.left, in)
			now[i], o.left = add(now[i], x), less(o.left, x)
		}
		for i, p := range k.b.Pans {
			off := k.l[i][minute].Off
			if least, most := boilsOff(p, heat, mass(now[i])); off < least || off > most {
				return outcome{e: api.ErrState}, "off"
			}
			if off > now[i].Water {
				return outcome{e: api.ErrState}, "water"
			}
			now[i].Water -= off
			o.steam += off
		}
	}
	o.end = now
	return o, "end"
}

// oneMinute is a minute of the usual pan, without fire.
func oneMinute(in, off int, acts ...api.PanAct) known {
	return known{boil(1, acts...), saps(s(970, 30)), s(980, 20), each(minutes(in, off))}
}

// TestP7_7Follow has sap of nothing, without water and without sugar, in a pan and in the feed.
func TestP7_7Follow(t *testing.T) {
	two := times(2, usual())
	for _, c := range []struct {
		what string
		k    known
		want outcome
	}{
		{"the chapter's pan", oneMinute(100, 0), outcome{saps(s(1068, 32)), s(882, 18), s(0, 0), 0, api.OK}},
		{"nothing comes in", oneMinute(0, 0), outcome{saps(s(970, 30)), s(980, 20), s(0, 0), 0, api.OK}},
		{"one gram", oneMinute(1, 0), outcome{saps(s(971, 30)), s(979, 20), s(0, 0), 0, api.OK}},
		{"it boils", oneMinute(100, 55, fire(0, 100)), outcome{saps(s(1013, 32)), s(882, 18), s(0, 0), 55, api.OK}},
		{"it is drawn off", oneMinute(70, 0, draw(0, 0, 100)), outcome{saps(s(873+69, 27+1)), s(911, 19), s(97, 3), 0, api.OK}},
		// Of 970 and 30, 100 grams have 3 of sugar; of 873 and 27, 90 have 2 of it.
		{"it is drawn off twice", oneMinute(100, 30, draw(0, 0, 100), fire(0, 100), draw(0, 0, 90)), outcome{saps(s(785+98-30, 25+2)), s(882, 18), s(97+88, 3+2), 30, api.OK}},
		{"no minute", known{boil(0), saps(s(970, 30)), s(980, 20), each(nil)}, outcome{saps(s(970, 30)), s(980, 20), s(0, 0), 0, api.OK}},
		{"nothing in the pan", known{boil(1), saps(s(0, 0)), s(980, 20), each(minutes(50, 0))}, outcome{saps(s(49, 1)), s(931, 19), s(0, 0), 0, api.OK}},
		{"nothing in the pan and in the feed", known{boil(1, shut(0, 0), fire(0, 100)), saps(s(0, 0)), s(0, 0), each(minutes(0, 0))}, outcome{saps(s(0, 0)), s(0, 0), s(0, 0), 0, api.OK}},
		{"nothing is drawn off from nothing", known{boilOf(two, 1, shut(0, 0), shut(0, 1), draw(0, 0, 0), move(0, 0, 0)), saps(s(0, 0), s(0, 0)), s(0, 0), each(minutes(0, 0), minutes(0, 0))}, outcome{saps(s(0, 0), s(0, 0)), s(0, 0), s(0, 0), 0, api.OK}},
		{"no sugar", known{boil(1, fire(0, 100)), saps(s(500, 0)), s(70, 0), each(minutes(70, 60))}, outcome{saps(s(510, 0)), s(0, 0), s(0, 0), 60, api.OK}},
		{"no water", known{boil(1, draw(0, 0, 50)), saps(s(0, 500)), s(0, 70), each(minutes(70, 0))}, outcome{saps(s(0, 520)), s(0, 0), s(0, 50), 0, api.OK}},
		{"water of the feed", known{boil(1, fire(0, 100)), saps(s(0, 500)), s(70, 0), each(minutes(70, 60))}, outcome{saps(s(10, 500)), s(0, 0), s(0, 0), 60, api.OK}},
		{"all of the water", known{boil(1, fire(0, 100)), saps(s(10, 500)), s(50, 0), each(minutes(50, 60))}, outcome{saps(s(0, 500)), s(0, 0), s(0, 0), 60, api.OK}},
		{"all that is in it", known{boil(1, fire(0, 100), shut(0, 0)), saps(s(20, 0)), s(50, 5), each(minutes(0, 20))}, outcome{saps(s(0, 0)), s(50, 5), s(0, 0), 20, api.OK}},
		{"pan by pan", known{boilOf(two, 2, fire(1, 100)), saps(s(1900, 100), s(900, 0)), s(900, 100), each(minutes(0, 0, 0, 40), minutes(55, 0, 99, 50))}, outcome{saps(s(1860, 100), s(900+50+90-50, 5+9)), s(900-50-90, 100-5-9), s(0, 0), 90, api.OK}},
		{"the first pan is fed first", known{boilOf(two, 1), saps(s(900, 0), s(900, 0)), s(150, 25), each(minutes(100, 0), minutes(60, 0))}, outcome{saps(s(986, 14), s(952, 8)), s(12, 3), s(0, 0), 0, api.OK}},
		{"moved, and then drawn off", known{boilOf(two, 1, move(0, 0, 500), draw(0, 1, 250)), saps(s(2000, 500), s(400, 100)), s(9, 1), each(minutes(0, 0), minutes(0, 0))}, outcome{nil, s(0, 0), s(0, 0), 0, api.ErrState}},
		{"moved, drawn off, and fed", known{boilOf(two, 1, move(0, 0, 500), draw(0, 1, 250)), saps(s(2000, 500), s(400, 100)), s(90, 10), each(minutes(0, 0), minutes(60, 0))}, outcome{saps(s(1600, 400), s(600+54, 150+6)), s(36, 4), s(200, 50), 0, api.OK}},
		{"as much as can be", known{boil(1), saps(s(1000, 0)), s(ton, ton), each(minutes(99, 0))}, outcome{saps(s(1050, 49)), s(ton-50, ton-49), s(0, 0), 0, api.OK}},
	} {
		sameFollow(t, c.what, c.k, c.want)
		if by, _ := c.k.byDefinition(); fmt.Sprint(by) != fmt.Sprint(c.want) {
			t.Errorf("by the definitions: %s: %v; want %v", c.what, by, c.want)
		}
	}
}

// TestP7_7Errors has those of what happens, with the last thing that is allowed, and what comes first of several.
func TestP7_7Errors(t *testing.T) {
	two, three := times(2, usual()), times(3, usual())
	none, cold := minutes(0, 0), minutes(0, 0, 0, 0)
	for i, c := range []struct {
		k     known
		want  api.Errno
		where string
	}{
		{oneMinute(0, 0, draw(0, 0, 1001)), api.ErrShort, "act"},
		{oneMinute(50, 0, draw(0, 0, 1000)), api.OK, "end"},
		{oneMinute(50, 0, draw(0, 0, 1000), draw(0, 0, 1)), api.ErrShort, "act"},
		{oneMinute(0, 0, draw(0, 0, 1000000)), api.ErrShort, "act"},
		{known{boilOf(two, 1, move(0, 0, 1001)), saps(s(970, 30), s(3000, 0)), s(0, 0), each(none, none)}, api.ErrShort, "act"},
		{known{boilOf(two, 1, move(0, 0, 1)), saps(s(970, 30), s(3000, 0)), s(0, 0), each(none, none)}, api.ErrSpill, "act"},
		{known{boilOf(two, 1, move(0, 0, 1000)), saps(s(2970, 30), s(2001, 0)), s(0, 0), each(none, none)}, api.ErrSpill, "act"},
		{known{boilOf(two, 1, move(0, 0, 1000)), saps(s(2970, 30), s(2000, 0)), s(0, 0), each(none, none)}, api.OK, "end"},
		{known{boilOf(two, 1, move(0, 0, 0)), saps(s(970, 30), s(3000, 0)), s(0, 0), each(none, none)}, api.OK, "end"},
		{known{boilOf(two, 1, draw(0, 1, 1), move(0, 0, 1)), saps(s(2970, 30), s(3000, 0)), s(0, 0), each(none, none)}, api.OK, "end"},
		{known{boilOf(two, 1, move(0, 0, 1), draw(0, 0, 3001)), saps(s(2970, 30), s(3000, 0)), s(0, 0), each(none, none)}, api.ErrSpill, "act"},
		{known{boilOf(three, 1, move(0, 1, 1000), move(0, 0, 3000)), saps(s(3000, 0), s(1000, 0), s(0, 0)), s(100, 0), each(minutes(49, 0), none, minutes(50, 0))}, api.ErrState, "in"},
		{known{boilOf(three, 1, move(0, 1, 1000), move(0, 0, 3000)), saps(s(3000, 0), s(1000, 0), s(1000, 0)), s(100, 0), each(minutes(50, 0), none, none)}, api.OK, "end"},
		{oneMinute(-1, 0), api.ErrState, "in"}, {oneMinute(101, 0), api.ErrState, "in"}, {oneMinute(low, 0), api.ErrState, "in"}, {oneMinute(high, 0), api.ErrState, "in"}, {oneMinute(1, 0, shut(0, 0)), api.ErrState, "in"}, {oneMinute(100, 0, shut(0, 0), open(0, 0)), api.OK, "end"},
		{oneMinute(49, 0, draw(0, 0, 1)), api.ErrState, "in"}, {oneMinute(50, 0, draw(0, 0, 1)), api.OK, "end"}, {oneMinute(0, 0, draw(0, 0, 1)), api.ErrState, "in"},
		{known{boil(1), saps(s(2000, 0)), s(980, 20), each(minutes(1, 0))}, api.ErrState, "in"},
		{known{boil(1), saps(s(1999, 0)), s(980, 20), each(minutes(1, 0))}, api.OK, "end"},
		{known{boil(1), saps(s(900, 100)), s(49, 1), each(minutes(50, 0))}, api.OK, "end"},
		{known{boil(1), saps(s(900, 100)), s(49, 0), each(minutes(50, 0))}, api.ErrNone, "feed"},
		{known{boil(1), saps(s(900, 100)), s(0, 0), each(minutes(0, 0))}, api.OK, "end"},
		{known{boil(1), saps(s(900, 100)), s(0, 0), each(minutes(1, 0))}, api.ErrNone, "feed"},
		{known{boil(1), saps(s(900, 100)), s(0, 0), each(minutes(101, 0))}, api.ErrState, "in"},
		{known{boilOf(two, 1), saps(s(900, 100), s(900, 100)), s(60, 0), each(minutes(50, 0), minutes(10, 0))}, api.OK, "end"},
		{known{boilOf(two, 1), saps(s(900, 100), s(900, 100)), s(60, 0), each(minutes(50, 0), minutes(11, 0))}, api.ErrNone, "feed"},
		{known{boilOf(two, 1), saps(s(900, 100), s(900, 100)), s(60, 0), each(minutes(61, 0), minutes(101, 0))}, api.ErrNone, "feed"},
		{known{boilOf(two, 1), saps(s(900, 100), s(900, 100)), s(60, 0), each(minutes(60, 0), minutes(101, 0))}, api.ErrState, "in"},
		{known{boilOf(two, 1), saps(s(900, 100), s(900, 100)), s(60, 0), each(minutes(60, 1), minutes(1, 0))}, api.ErrNone, "feed"},
		{known{boilOf(two, 1), saps(s(900, 100), s(900, 100)), s(60, 0), each(minutes(60, 1), minutes(0, 0))}, api.ErrState, "off"},
		{oneMinute(0, 1), api.ErrState, "off"}, {oneMinute(0, -1), api.ErrState, "off"}, {oneMinute(0, low), api.ErrState, "off"}, {oneMinute(0, high), api.ErrState, "off"},
		{oneMinute(0, 29, fire(0, 100)), api.ErrState, "off"}, {oneMinute(0, 30, fire(0, 100)), api.OK, "end"}, {oneMinute(0, 60, fire(0, 100)), api.OK, "end"}, {oneMinute(0, 61, fire(0, 100)), api.ErrState, "off"}, {oneMinute(0, 0, fire(0, 100)), api.ErrState, "off"},
		{known{boil(1, fire(0, 100), shut(0, 0)), saps(s(50, 900)), s(0, 0), each(minutes(0, 50))}, api.OK, "end"},
		{known{boil(1, fire(0, 100), shut(0, 0)), saps(s(50, 900)), s(0, 0), each(minutes(0, 51))}, api.ErrState, "water"},
		{known{boil(1, fire(0, 100), shut(0, 0)), saps(s(29, 900)), s(0, 0), each(minutes(0, 29))}, api.ErrState, "off"},
		{known{boil(1, fire(0, 100), shut(0, 0)), saps(s(0, 900)), s(0, 0), each(minutes(0, 30))}, api.ErrState, "water"},
		{known{boil(1, fire(0, 100), shut(0, 0)), saps(s(20, 5)), s(0, 0), each(minutes(0, 25))}, api.ErrState, "water"},
		{known{boil(1, fire(0, 100), shut(0, 0)), saps(s(20, 5)), s(0, 0), each(minutes(0, 20))}, api.ErrState, "off"},
		{known{boil(2, draw(1, 0, 1000)), saps(s(970, 30)), s(980, 20), each(cold)}, api.ErrState, "in"},
		{known{boil(2, draw(1, 0, 1001)), saps(s(970, 30)), s(980, 20), each(cold)}, api.ErrShort, "act"},
		{known{boil(2, draw(1, 0, 1001)), saps(s(970, 30)), s(980, 20), each(minutes(0, 1, 0, 0))}, api.ErrState, "off"},
		{known{boil(2), saps(s(970, 30)), s(40, 20), each(minutes(50, 0, 10, 0))}, api.OK, "end"},
		{known{boil(2), saps(s(970, 30)), s(40, 20), each(minutes(50, 0, 11, 0))}, api.ErrNone, "feed"},
		{known{boil(2, fire(0, 100)), saps(s(970, 30)), s(40, 20), each(minutes(0, 40, 0, 40))}, api.ErrState, "in"},
	} {
		want, where := c.k.byDefinition()
		if want.e != c.want || where != c.where {
			t.Error("by the definitions", i, want, where, "not", c.want, c.where)
		}
		sameFollow(t, fmt.Sprint("errors ", i), c.k, want)
	}
}

// TestP7_7Given has what is not as it must be, with what comes first of several, and all limits.
func TestP7_7Given(t *testing.T) {
	two := times(2, usual())
	none := minutes(0, 0)
	good := s(900, 100)
	short := boilOf(two, 1, draw(0, 0, 3000))
	for i, c := range []struct {
		k    known
		want api.Errno
	}{
		{known{boil(301), nil, s(-1, 0), nil}, api.ErrArg}, {known{api.Boil{}, nil, s(0, 0), nil}, api.ErrArg}, {known{boil(1, fire(0, 101)), saps(good, good), s(0, 0), nil}, api.ErrArg},
		{known{short, saps(good), s(0, 0), each(none, none)}, api.ErrForm}, {known{short, saps(good, good, good), s(0, 0), each(none, none)}, api.ErrForm}, {known{short, nil, s(0, 0), each(none, none)}, api.ErrForm},
		{known{short, saps(good, good), s(0, 0), each(none)}, api.ErrForm}, {known{short, saps(good, good), s(0, 0), each(none, none, none)}, api.ErrForm}, {known{short, saps(good, good), s(0, 0), nil}, api.ErrForm},
		{known{short, saps(good, good), s(0, 0), each(none, nil)}, api.ErrForm}, {known{short, saps(good, good), s(0, 0), each(nil, none)}, api.ErrForm}, {known{short, saps(good, good), s(0, 0), each(none, minutes(0, 0, 0, 0))}, api.ErrForm}, {known{boilOf(two, 0), saps(good, good), s(0, 0), each(nil, none)}, api.ErrForm},
		{known{short, saps(s(-1, 0)), s(-1, 0), each(none, none)}, api.ErrForm}, {known{short, saps(s(-1, 0), good), s(-1, 0), each(none, nil)}, api.ErrForm},
		{known{short, saps(s(-1, 900), good), s(0, 0), each(none, none)}, api.ErrArg}, {known{short, saps(good, s(900, -1)), s(0, 0), each(none, none)}, api.ErrArg}, {known{short, saps(good, s(ton+1, 0)), s(0, 0), each(none, none)}, api.ErrArg}, {known{short, saps(good, s(high, high)), s(0, 0), each(none, none)}, api.ErrArg}, {known{short, saps(good, s(high, low)), s(0, 0), each(none, none)}, api.ErrArg},
		{known{short, saps(good, s(2001, 1000)), s(0, 0), each(none, none)}, api.ErrArg}, {known{short, saps(s(0, 3001), good), s(0, 0), each(none, none)}, api.ErrArg}, {known{short, saps(good, s(2000, 1000)), s(0, 0), each(none, none)}, api.ErrShort},
		{known{short, saps(good, good), s(-1, 0), each(none, none)}, api.ErrArg}, {known{short, saps(good, good), s(0, -1), each(none, none)}, api.ErrArg}, {known{short, saps(good, good), s(ton+1, 0), each(none, none)}, api.ErrArg}, {known{short, saps(good, good), s(0, ton+1), each(none, none)}, api.ErrArg}, {known{short, saps(good, good), s(ton, ton), each(none, none)}, api.ErrShort}, {known{short, saps(good, good), s(low, high), each(none, none)}, api.ErrArg},
	} {
		sameFollow(t, fmt.Sprint("given ", i), c.k, outcome{e: c.want})
	}
}

// anyKnown returns what often, and not always, can happen.
func anyKnown(d *rand.Rand) known {
	k := known{b: anyBoil(d), feed: s(pick(d, 0, 200), pick(d, 0, 60))}
	if d.IntN(3) == 0 {
		k.feed = s(pick(d, 0, 10), pick(d, 0, 10))
	}
	for _, p := range k.b.Pans {
		all := pick(d, 0, p.Rim)
		sugar := pick(d, 0, pick(d, 0, all))
		k.pans = append(k.pans, s(all-sugar, sugar))
		k.l = append(k.l, make([]api.PanMinute, k.b.Minutes))
	}
	// What is in the pans is known for each minute, so that what comes in and boils off can be drawn within its bounds.
	for i := range k.b.Pans {
		now := set()
		for _, a := range k.pans {
			now = append(now, one(mass(a)))
		}
		all := newTruths(k.b, now, 0)
		if all.e != api.OK || k.b.Minutes == 0 {
			continue
		}
		ends := ascending(all.ends[k.b.Minutes-1][i])
		k.l[i] = all.courseTo(i, k.b.Minutes-1, ends[d.IntN(len(ends))]).Minutes
	}
	if d.IntN(3) == 0 && k.b.Minutes > 0 {
		m := &k.l[d.IntN(len(k.l))][d.IntN(k.b.Minutes)]
		m.In, m.Off = m.In+pick(d, -1, 1), m.Off+pick(d, -1, 1)
	}
	return k
}

// TestP7_7Definitions compares with what happens by the definitions.
func TestP7_7Definitions(t *testing.T) {
	d := dice()
	seen := map[string]int{}
	for range 6000 {
		k := anyKnown(d)
		want, where := k.byDefinition()
		sameFollow(t, fmt.Sprint(k), k, want)
		seen[fmt.Sprint(where, " ", want.e)]++
		if want.drawn.Sugar > 0 {
			seen["drawn"]++
		}
	}
	for _, what := range []string{"act 70", "act 71", "in 9", "feed 7", "off 9", "water 9", "end 0", "drawn"} {
		if seen[what] < 50 {
			t.Error("too few:", what, seen)
		}
	}
}

// TestP7_7AtOnce has acts by which a single number is too much only in its order, for pans that are known.
func TestP7_7AtOnce(t *testing.T) {
	six := times(6, usual())
	b := boilOf(six, 1)
	for from := range 5 {
		b.Acts = append(b.Acts, move(0, from, 100*(from+1)))
	}
	k := known{b, times(6, s(2200, 200)), s(0, 0), times(6, minutes(0, 0))}
	want, where := k.byDefinition()
	if want.e != api.OK || where != "end" || mass(want.end[5]) != 2900 {
		t.Fatal("by the definitions", want, where)
	}
	sameFollow(t, "through six pans", k, want)
}

func TestP7_8Wood(t *testing.T) {
	for _, c := range []struct {
		b           api.Boil
		whole, want int
		e           api.Errno
	}{
		{boil(1), 10000, 0, api.OK}, {boil(0), 10000, 0, api.OK}, {boil(300), 1, 0, api.OK},
		{boil(1, fire(0, 1)), 1, 1, api.OK}, {boil(100, fire(0, 1)), 1, 1, api.OK}, {boil(101, fire(0, 1)), 1, 2, api.OK}, {boil(1, fire(0, 99)), 1, 1, api.OK}, {boil(1, fire(0, 100)), 1, 1, api.OK}, {boil(2, fire(0, 51)), 1, 2, api.OK}, {boil(2, fire(0, 50)), 1, 1, api.OK},
		{boil(300, fire(0, 100)), 10000, 3000000, api.OK}, {boil(300, fire(0, 100)), 0, 0, api.OK}, {boil(3, fire(0, 33)), 7, 7, api.OK}, {boil(3, fire(0, 34)), 7, 8, api.OK},
		{boil(10, fire(3, 50)), 100, 350, api.OK}, {boil(10, fire(3, 50), fire(5, 0), fire(9, 100)), 100, 200, api.OK}, {boil(10, fire(3, 50), fire(3, 10), fire(3, 20)), 100, 140, api.OK}, {boil(10, fire(9, 1)), 101, 2, api.OK},
		{boil(10, shut(0, 0), fire(2, 50), draw(2, 0, 1000000), open(3, 0)), 100, 400, api.OK}, {boilOf(times(6, usual()), 10, fire(0, 50), move(1, 4, 1000000), move(1, 0, 100)), 100, 500, api.OK},
		{boil(1, fire(0, 100)), -1, 0, api.ErrRange}, {boil(1, fire(0, 100)), 10001, 0, api.ErrRange}, {boil(1, fire(0, 100)), low, 0, api.ErrRange}, {boil(1, fire(0, 100)), high, 0, api.ErrRange}, {boil(0), -1, 0, api.ErrRange}, {boil(0), 10001, 0, api.ErrRange},
		{boil(301), -1, 0, api.ErrArg}, {boil(1, fire(0, 101)), 1, 0, api.ErrArg}, {api.Boil{}, 10001, 0, api.ErrArg}, {boil(1, fire(1, 1)), 0, 0, api.ErrArg},
	} {
		wood, e := pan.Wood(c.b, c.whole)
		same(t, fmt.Sprint("Wood ", c.b, c.whole), wood, e, c.want, c.e)
	}
	d := dice()
	for range 2000 {
		b, whole, sum := anyBoil(d), pick(d, 0, 10000), new(big.Rat)
		for minute := range b.Minutes {
			heat := 0
			for _, a := range b.Acts {
				if a.Kind == api.PanFire && a.Minute <= minute {
					heat = a.Amount
				}
			}
			sum.Add(sum, big.NewRat(int64(whole*heat), 100))
		}
		_, want := around(sum)
		wood, e := pan.Wood(b, whole)
		same(t, fmt.Sprint("Wood ", b, whole), wood, e, want, api.OK)
	}
}

// around returns a number rounded down and rounded up.
func around(x *big.Rat) (int, int) {
	down, rest := new(big.Int).DivMod(x.Num(), x.Denom(), new(big.Int))
	return int(down.Int64()), int(down.Int64()) + rest.Sign()
}

// content returns the least ranges by the definition, from all numbers of both ranges.
func content(mass, brix api.Range) (water, sugar api.Range) {
	water, sugar = r(high, low), r(high, low)
	for m := mass.Low; m <= mass.High; m++ {
		for x := brix.Low; x <= brix.High; x++ {
			of := new(big.Rat).Mul(big.NewRat(int64(m), 10000), big.NewRat(int64(x), 1))
			down, up := around(of)
			sugar = r(min(sugar.Low, down), max(sugar.High, up))
			down, up = around(of.Sub(big.NewRat(int64(m), 1), of))
			water = r(min(water.Low, down), max(water.High, up))
		}
	}
	return water, sugar
}

// TestP7_9Content has single numbers and ranges.
func TestP7_9Content(t *testing.T) {
	for _, c := range []struct{ mass, brix, water, sugar api.Range }{
		{r(1000, 1100), r(6600, 6700), r(330, 374), r(660, 737)},
		{one(1000), one(6600), one(340), one(660)},
		{one(1000), one(6601), r(339, 340), r(660, 661)},
		{one(1000), r(6600, 6601), r(339, 340), r(660, 661)},
		{r(1000, 1001), one(6600), r(340, 341), r(660, 661)},
		{one(0), r(0, 10000), one(0), one(0)},
		{one(1), r(0, 10000), r(0, 1), r(0, 1)},
		{one(1), one(0), one(1), one(0)},
		{one(1), one(10000), one(0), one(1)},
		{one(1), one(1), r(0, 1), r(0, 1)},
		{one(1), one(9999), r(0, 1), r(0, 1)},
		{r(0, 10), one(0), r(0, 10), one(0)},
		{r(7, 10), one(10000), one(0), r(7, 10)},
		{r(0, ton), r(0, 10000), r(0, ton), r(0, ton)},
		{one(ton), one(10000), one(0), one(ton)},
		{one(ton), one(0), one(ton), one(0)},
		{one(ton), one(1), one(ton - ton/10000), one(ton / 10000)},
		{one(ton - 1), one(9999), r(ton/10000-1, ton/10000), r(ton/10000*9999-1, ton/10000*9999)},
		{r(ton-1, ton), r(1, 9999), r(ton/10000-1, ton-ton/10000), r(ton/10000-1, ton/10000*9999)},
	} {
		water, sugar, e := pan.Content(c.mass, c.brix)
		same(t, fmt.Sprint("Content ", c.mass, c.brix), [2]api.Range{water, sugar}, e, [2]api.Range{c.water, c.sugar}, api.OK)
	}
	d := dice()
	for range 3000 {
		m, x := pick(d, 0, 3000), pick(d, 0, 9990)
		mass, brix := r(m, m+pick(d, 0, 5)), r(x, x+pick(d, 0, 5))
		water, sugar := content(mass, brix)
		gotWater, gotSugar, e := pan.Content(mass, brix)
		same(t, fmt.Sprint("Content ", mass, brix), [2]api.Range{gotWater, gotSugar}, e, [2]api.Range{water, sugar}, api.OK)
	}
}

func TestP7_9Errors(t *testing.T) {
	for _, c := range []struct {
		mass, brix api.Range
		want       api.Errno
	}{
		{r(1, 0), one(0), api.ErrArg}, {one(0), r(1, 0), api.ErrArg}, {r(1, 0), one(-1), api.ErrArg}, {one(-1), r(1, 0), api.ErrArg}, {r(ton+2, ton+1), one(0), api.ErrArg}, {one(0), r(10002, 10001), api.ErrArg},
		{r(0, api.MaxSpan+1), one(0), api.ErrArg}, {one(0), r(0, api.MaxSpan+1), api.ErrArg}, {r(-api.MaxSpan-1, 0), one(0), api.ErrArg}, {one(0), r(-api.MaxSpan-1, 0), api.ErrArg}, {r(low, high), one(-1), api.ErrArg}, {one(-1), r(low, high), api.ErrArg}, {r(high, low), one(0), api.ErrArg},
		{one(-1), one(0), api.ErrRange}, {r(-1, 5), one(0), api.ErrRange}, {r(0, ton+1), one(0), api.ErrRange}, {one(ton + 1), one(0), api.ErrRange}, {r(0, api.MaxSpan), one(0), api.ErrRange}, {r(-api.MaxSpan, 0), one(0), api.ErrRange},
		{one(0), one(-1), api.ErrRange}, {one(0), r(-1, 5), api.ErrRange}, {one(0), one(10001), api.ErrRange}, {one(0), r(0, 10001), api.ErrRange}, {one(0), r(0, api.MaxSpan), api.ErrRange}, {one(0), r(-api.MaxSpan, 0), api.ErrRange}, {one(-1), one(10001), api.ErrRange},
	} {
		water, sugar, e := pan.Content(c.mass, c.brix)
		same(t, fmt.Sprint("Content ", c.mass, c.brix), [2]api.Range{water, sugar}, e, [2]api.Range{}, c.want)
	}
}
