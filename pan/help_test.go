package pan_test

import (
	"fmt"
	"math/rand/v2"
	"slices"
	"testing"

	"spile/api"
	"spile/pan"
)

const (
	low  = -1 << 63
	high = 1<<63 - 1
	ton  = api.MaxMass
)

// r returns a range, and one returns the range of one number.
func r(low, high int) api.Range { return api.Range{Low: low, High: high} }

func one(n int) api.Range { return r(n, n) }

func set(l ...api.Range) []api.Range { return l }

func list(l ...int) []int { return l }

func s(water, sugar int) api.Sap { return api.Sap{Water: water, Sugar: sugar} }

func mass(a api.Sap) int { return a.Water + a.Sugar }

// add returns sap together.
func add(l ...api.Sap) api.Sap {
	var all api.Sap
	for _, a := range l {
		all = s(all.Water+a.Water, all.Sugar+a.Sugar)
	}
	return all
}

// times returns a list of so many equal things.
func times[T any](n int, x T) []T { return slices.Repeat([]T{x}, n) }

// usual is the pan of the chapter's examples.
func usual() api.Pan {
	return api.Pan{Low: 1000, High: 2000, Least: 50, Most: 100, Cool: 30, Hot: 60, Dry: 800, Rim: 3000}
}

// panWith changes what the usual pan has.
func panWith(change func(p *api.Pan)) api.Pan {
	p := usual()
	change(&p)
	return p
}

// boil returns a boil of the usual pan, and boilOf one of other pans.
func boil(minutes int, acts ...api.PanAct) api.Boil { return boilOf(pans(usual()), minutes, acts...) }

func boilOf(l []api.Pan, minutes int, acts ...api.PanAct) api.Boil {
	return api.Boil{Pans: l, Minutes: minutes, Acts: acts}
}

func pans(l ...api.Pan) []api.Pan { return l }

// fire, move, draw, shut and open return acts.
func fire(minute, amount int) api.PanAct {
	return api.PanAct{Minute: minute, Kind: api.PanFire, Amount: amount}
}

func move(minute, pan, amount int) api.PanAct {
	return api.PanAct{Minute: minute, Kind: api.PanMove, Pan: pan, Amount: amount}
}

func draw(minute, pan, amount int) api.PanAct {
	return api.PanAct{Minute: minute, Kind: api.PanDraw, Pan: pan, Amount: amount}
}

func shut(minute, pan int) api.PanAct {
	return api.PanAct{Minute: minute, Kind: api.PanShut, Pan: pan}
}

func open(minute, pan int) api.PanAct {
	return api.PanAct{Minute: minute, Kind: api.PanOpen, Pan: pan}
}

// course returns a course: what is in the pan at the start, and In, Off, In, Off ..
func course(start int, n ...int) api.PanCourse {
	return api.PanCourse{Start: start, Minutes: minutes(n...)}
}

// minutes returns what happens: In, Off, In, Off ..
func minutes(n ...int) []api.PanMinute {
	var l []api.PanMinute
	for i := 0; i+1 < len(n); i += 2 {
		l = append(l, api.PanMinute{In: n[i], Off: n[i+1]})
	}
	return l
}

// dice returns numbers that are the same in each run.
func dice() *rand.Rand { return rand.New(rand.NewPCG(1, 13)) }

// pick returns a number from a to b.
func pick(d *rand.Rand, a, b int) int { return a + d.IntN(b-a+1) }

// pickRange returns a range within a to b.
func pickRange(d *rand.Rand, a, b int) api.Range {
	x, y := pick(d, a, b), pick(d, a, b)
	return r(min(x, y), max(x, y))
}

// inside reports whether a range lies in another one.
func inside(a, b api.Range) bool { return b.Low <= a.Low && a.High <= b.High }

// anyPan returns a small pan, in which a boil by the definitions does not take long.
func anyPan(d *rand.Rand) api.Pan {
	var p api.Pan
	p.Low = pick(d, 0, 10)
	p.High = p.Low + pick(d, 1, 10)
	p.Dry = pick(d, 0, p.Low)
	p.Most = pick(d, 0, 6)
	p.Least = pick(d, 0, p.Most)
	p.Rim = p.High + p.Most + pick(d, 0, 8)
	p.Hot = pick(d, 0, 8)
	p.Cool = pick(d, 0, p.Hot)
	return p
}

// anyBoil returns a boil of small pans. Not often is much moved or drawn off.
func anyBoil(d *rand.Rand) api.Boil {
	b := api.Boil{Minutes: pick(d, 0, 8)}
	for range pick(d, 1, 3) {
		b.Pans = append(b.Pans, anyPan(d))
	}
	if b.Minutes == 0 {
		return b
	}
	for range pick(d, 0, 6) {
		b.Acts = append(b.Acts, anyAct(d, b))
	}
	slices.SortStableFunc(b.Acts, func(a, other api.PanAct) int { return a.Minute - other.Minute })
	return b
}

// anyAct returns an act of a boil.
func anyAct(d *rand.Rand, b api.Boil) api.PanAct {
	minute, pan, amount := d.IntN(b.Minutes), d.IntN(len(b.Pans)), pick(d, 0, pick(d, 0, 4))
	switch d.IntN(8) {
	case 0:
		return draw(minute, pan, amount)
	case 1:
		return shut(minute, pan)
	case 2:
		return open(minute, pan)
	case 3, 4, 5:
		if pan+1 < len(b.Pans) {
			return move(minute, pan, amount)
		}
	}
	return fire(minute, pick(d, 0, 100))
}

// anyStart returns what can be in pans at the start.
func anyStart(d *rand.Rand, l []api.Pan) []api.Range {
	var start []api.Range
	for _, p := range l {
		switch d.IntN(6) {
		case 0:
			start = append(start, r(0, p.Rim))
		case 1, 2:
			start = append(start, one(pick(d, 0, p.Rim)))
		case 3:
			start = append(start, r(max(0, p.Low-2), min(p.Rim, p.Low+2)))
		default:
			start = append(start, pickRange(d, 0, p.Rim))
		}
	}
	return start
}

// truths is a boil by the definitions: each number that can be in each pan is known, at the end of each minute, with how it came to be.
type truths struct {
	boil  api.Boil
	start []api.Range
	ends  [][]map[int]way
	at    int
	e     api.Errno
}

// way is how a number came to be: what was in the pan at the end of the minute before, and what happened.
type way struct {
	from int
	m    api.PanMinute
}

// letsIn returns the least and the most that a float lets in.
func letsIn(p api.Pan, shut bool, mass int) (int, int) {
	switch {
	case shut, mass >= p.High:
		return 0, 0
	case mass < p.Low:
		return p.Least, p.Most
	}
	return 0, p.Most
}

// boilsOff returns the least and the most that boils off.
func boilsOff(p api.Pan, fire, mass int) (int, int) {
	least, most := p.Cool*fire/100, p.Hot*fire/100
	if most*100 < p.Hot*fire {
		most++
	}
	return min(least, mass), min(most, mass)
}

// newTruths boils with a fire from the beginning.
func newTruths(b api.Boil, start []api.Range, fire int) truths {
	t := truths{boil: b, start: start}
	now := make([]map[int]way, len(b.Pans)) // the from of a number that is in a pan is what was in it at the end of the minute before
	for i, a := range start {
		now[i] = map[int]way{}
		for n := a.Low; n <= a.High; n++ {
			now[i][n] = way{from: n}
		}
	}
	closed := make([]bool, len(b.Pans))
	for minute := range b.Minutes {
		for i, a := range b.Acts {
			if a.Minute != minute {
				continue
			}
			switch a.Kind {
			case api.PanFire:
				fire = a.Amount
			case api.PanShut:
				closed[a.Pan] = true
			case api.PanOpen:
				closed[a.Pan] = false
			default:
				if t.e = carry(b, now, a); t.e != api.OK {
					t.at, t.ends = i, nil
					return t
				}
			}
		}
		end := make([]map[int]way, len(b.Pans))
		for i, p := range b.Pans {
			end[i] = minuteOf(p, closed[i], fire, now[i])
			now[i] = map[int]way{}
			for n := range end[i] {
				now[i][n] = way{from: n}
			}
		}
		t.ends = append(t.ends, end)
	}
	return t
}

// carry moves or draws off, whatever is truly in the pans.
func carry(b api.Boil, now []map[int]way, a api.PanAct) api.Errno {
	shift := func(pan, by int) {
		shifted := map[int]way{}
		for n, w := range now[pan] {
			shifted[n+by] = w
		}
		now[pan] = shifted
	}
	for n := range now[a.Pan] {
		if n < a.Amount {
			return api.ErrShort
		}
	}
	shift(a.Pan, -a.Amount)
	if a.Kind == api.PanMove {
		for n := range now[a.Pan+1] {
			if n+a.Amount > b.Pans[a.Pan+1].Rim {
				return api.ErrSpill
			}
		}
		shift(a.Pan+1, a.Amount)
	}
	return api.OK
}

// minuteOf returns all numbers that can be in a pan after a minute. Of several ways to one the first is kept, so that it is the same in each run.
func minuteOf(p api.Pan, shut bool, fire int, now map[int]way) map[int]way {
	end := map[int]way{}
	for _, n := range ascending(now) {
		inLeast, inMost := letsIn(p, shut, n)
		for in := inLeast; in <= inMost; in++ {
			offLeast, offMost := boilsOff(p, fire, n+in)
			for off := offLeast; off <= offMost; off++ {
				if _, ok := end[n+in-off]; !ok {
					end[n+in-off] = way{now[n].from, api.PanMinute{In: in, Off: off}}
				}
			}
		}
	}
	return end
}

// ascending returns the keys of a map.
func ascending(m map[int]way) []int {
	var l []int
	for n := range m {
		l = append(l, n)
	}
	slices.Sort(l)
	return l
}

// levels returns what Levels must return.
func (t truths) levels() [][]api.Range {
	var all [][]api.Range
	for _, end := range t.ends {
		var now []api.Range
		for _, m := range end {
			l := ascending(m)
			now = append(now, r(l[0], l[len(l)-1]))
		}
		all = append(all, now)
	}
	return all
}

// courseTo returns a course of a pan that ends with so much.
func (t truths) courseTo(pan, minute, mass int) api.PanCourse {
	c := api.PanCourse{Minutes: make([]api.PanMinute, minute+1)}
	for ; minute >= 0; minute-- {
		w := t.ends[minute][pan][mass]
		c.Minutes[minute], mass = w.m, w.from
	}
	c.Start = mass
	return c
}

// dry returns the first minute at the end of which a pan can have run dry, and the first such pan; -1 if there is none.
func (t truths) dry() (pan, minute int) {
	for minute, end := range t.ends {
		for pan, m := range end {
			if ascending(m)[0] < t.boil.Pans[pan].Dry {
				return pan, minute
			}
		}
	}
	return -1, -1
}

// same reports what a call returned if it is not what is wanted.
func same[T comparable](t *testing.T, what string, got T, e api.Errno, want T, wantErr api.Errno) {
	t.Helper()
	if got != want || e != wantErr {
		t.Errorf("%s: %v, error %d; want %v, error %d", what, got, e, want, wantErr)
	}
}

// sameErr reports an error that is not the one that is wanted.
func sameErr(t *testing.T, what string, got, want api.Errno) {
	t.Helper()
	if got != want {
		t.Errorf("%s: error %d; want %d", what, got, want)
	}
}

// sameLevels asks Levels.
func sameLevels(t *testing.T, what string, b api.Boil, start []api.Range, want [][]api.Range) {
	t.Helper()
	levels, at, e := pan.Levels(b, start)
	if !slices.EqualFunc(levels, want, slices.Equal) || at != 0 || e != api.OK {
		t.Errorf("Levels: %s: %v %d, error %d; want %v", what, levels, at, e, want)
	}
}

// sameTrace asks Trace.
func sameTrace(t *testing.T, what string, b api.Boil, start []api.Range, number int, c api.PanCourse, want []int, wantAt int, wantErr api.Errno) {
	t.Helper()
	masses, at, e := pan.Trace(b, start, number, c)
	if !slices.Equal(masses, want) || at != wantAt || e != wantErr {
		t.Errorf("Trace: %s: %v %d, error %d; want %v %d, error %d", what, masses, at, e, want, wantAt, wantErr)
	}
}

// sameDry asks Dry, and looks at its course with Trace, and by the definitions.
func sameDry(t *testing.T, what string, b api.Boil, start []api.Range, wantPan, wantMinute int) {
	t.Helper()
	number, minute, c, e := pan.Dry(b, start)
	if number != wantPan || minute != wantMinute || e != api.OK {
		t.Errorf("Dry: %s: %d %d, error %d; want %d %d", what, number, minute, e, wantPan, wantMinute)
		return
	}
	masses, at, e := pan.Trace(b, start, number, c)
	if e != api.OK || len(masses) != minute+1 || masses[minute] >= b.Pans[number].Dry {
		t.Errorf("Dry: %s: the course %v: %v %d, error %d", what, c, masses, at, e)
	}
	if by, _, ok := follow(b, start, number, c); !ok || !slices.Equal(by, masses) {
		t.Errorf("Dry: %s: the course %v has %v, by the definitions %v", what, c, masses, by)
	}
}

// noDry asks Dry, which must have an error.
func noDry(t *testing.T, what string, b api.Boil, start []api.Range, want api.Errno) {
	t.Helper()
	number, minute, c, e := pan.Dry(b, start)
	same(t, fmt.Sprint("Dry: ", what), fmt.Sprint(number, minute, c.Start, len(c.Minutes)), e, "0 0 0 0", want)
}

// follow returns what is in a pan at the end of each minute of a course, by the definitions: whether it can be so, and if not, in which minute it can not.
func follow(b api.Boil, start []api.Range, pan int, c api.PanCourse) (masses []int, at int, ok bool) {
	if c.Start < start[pan].Low || c.Start > start[pan].High {
		return nil, -1, false
	}
	mass, heat, closed := c.Start, 0, false
	for minute, m := range c.Minutes {
		for _, a := range b.Acts {
			if a.Minute != minute {
				continue
			}
			switch {
			case a.Kind == api.PanFire:
				heat = a.Amount
			case a.Kind == api.PanMove && a.Pan == pan-1:
				mass += a.Amount
			case a.Pan != pan:
			case a.Kind == api.PanMove, a.Kind == api.PanDraw:
				mass -= a.Amount
			default:
				closed = a.Kind == api.PanShut
			}
		}
		least, most := letsIn(b.Pans[pan], closed, mass)
		if m.In < least || m.In > most {
			return nil, minute, false
		}
		mass += m.In
		least, most = boilsOff(b.Pans[pan], heat, mass)
		if m.Off < least || m.Off > most {
			return nil, minute, false
		}
		mass -= m.Off
		masses = append(masses, mass)
	}
	return masses, 0, true
}
