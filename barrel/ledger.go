package barrel

import (
	"maps"
	"slices"

	"spile/api"
)

// Ledger is things that are made of others, each in a place behind all that it is made of.
type Ledger struct {
	things []thing
}

// thing is what was gathered in a bush, of nothing else, or made of others: its grams, and how many of them were not taken.
type thing struct {
	takes      []api.Take
	mass, left int
}

// NewLedger returns an empty ledger.
func NewLedger() *Ledger { return &Ledger{} }

// Gather adds what was gathered in a bush, and Make what is made of other things.
func (l *Ledger) Gather(mass int) (int, api.Errno) {
	if e := l.checkRoom(); e != api.OK {
		return 0, e
	}
	if !in(1, api.MaxBarrel, mass) {
		return 0, api.ErrRange
	}
	return l.add(thing{mass: mass, left: mass}), api.OK
}

func (l *Ledger) Make(takes []api.Take, mass int) (int, api.Errno) {
	if e := l.checkRoom(); e != api.OK {
		return 0, e
	}
	if e := l.checkTakes(takes); e != api.OK {
		return 0, e
	}
	made := thing{takes: slices.Clone(takes), mass: mass, left: mass}
	if !in(1, min(api.MaxBarrel, made.taken()), mass) {
		return 0, api.ErrRange
	}
	for _, t := range takes {
		l.things[t.From].left -= t.Mass
	}
	return l.add(made), api.OK
}

// Left returns how many grams of a thing are left, and how many were lost when it was made.
func (l *Ledger) Left(item int) (left, lost int, e api.Errno) {
	if e := l.check(item); e != api.OK {
		return 0, 0, e
	}
	t := l.things[item]
	return t.left, t.lost(), api.OK
}

// Trace returns the bushes of which a thing can have something, and Recall the things that can have something of a bush.
func (l *Ledger) Trace(item int) ([]int, api.Errno) {
	if e := l.check(item); e != api.OK {
		return nil, e
	}
	var bushes []int
	seen := map[int]bool{item: true}
	for n, t := range slices.Backward(l.things[:item+1]) {
		if !seen[n] {
			continue
		}
		if t.bush() {
			bushes = append(bushes, n)
		}
		for _, take := range t.takes {
			seen[take.From] = true
		}
	}
	slices.Reverse(bushes)
	return bushes, api.OK
}

func (l *Ledger) Recall(bush int) ([]int, api.Errno) {
	if e := l.checkBush(bush); e != api.OK {
		return nil, e
	}
	seen := map[int]bool{bush: true}
	for n, t := range l.things {
		if slices.ContainsFunc(t.takes, func(take api.Take) bool { return seen[take.From] }) {
			seen[n] = true
		}
	}
	return slices.Sorted(maps.Keys(seen)), api.OK
}

// Amount returns how many grams of a thing come from a bush.
func (l *Ledger) Amount(item, bush int) (api.Range, api.Errno) {
	if e := l.check(item, bush); e != api.OK {
		return api.Range{}, e
	}
	if e := l.checkBush(bush); e != api.OK {
		return api.Range{}, e
	}
	// Each thing is asked once, in their order, as there can be more ways to a bush than can be gone.
	var amounts []api.Range
	for n, t := range l.things[:item+1] {
		a := l.made(t, amounts)
		if n == bush {
			a = api.Range{Low: t.mass, High: t.mass}
		}
		amounts = append(amounts, a)
	}
	return amounts[item], api.OK
}

// made returns how many grams of a thing come from a bush if that is known of what it is made of.
func (l *Ledger) made(t thing, amounts []api.Range) api.Range {
	var all api.Range
	for _, take := range t.takes {
		a, rest := amounts[take.From], l.things[take.From].mass-take.Mass
		all.Low += max(0, a.Low-rest)
		all.High += min(a.High, take.Mass)
	}
	return api.Range{Low: max(0, all.Low-t.lost()), High: min(all.High, t.mass)}
}

// add adds a thing, and returns its number.
func (l *Ledger) add(t thing) int {
	l.things = append(l.things, t)
	return len(l.things) - 1
}

// check returns the error of a ledger, and of numbers of its things.
func (l *Ledger) check(items ...int) api.Errno {
	if l == nil {
		return api.ErrNil
	}
	if !in(0, len(l.things)-1, items...) {
		return api.ErrNone
	}
	return api.OK
}

// checkBush returns the error of a ledger, and of the number of a bush.
func (l *Ledger) checkBush(bush int) api.Errno {
	if e := l.check(bush); e != api.OK {
		return e
	}
	if !l.things[bush].bush() {
		return api.ErrArg
	}
	return api.OK
}

// checkRoom returns the error of a ledger to which a thing shall be added.
func (l *Ledger) checkRoom() api.Errno {
	if e := l.check(); e != api.OK {
		return e
	}
	if len(l.things) >= api.MaxItems {
		return api.ErrFull
	}
	return api.OK
}

// checkTakes returns the error of what is taken.
func (l *Ledger) checkTakes(takes []api.Take) api.Errno {
	if len(takes) > api.MaxTakes {
		return api.ErrLong
	}
	if len(takes) == 0 {
		return api.ErrForm
	}
	seen := map[int]bool{}
	for _, t := range takes {
		switch {
		case !in(0, len(l.things)-1, t.From):
			return api.ErrNone
		case seen[t.From]:
			return api.ErrTwice
		case !in(1, l.things[t.From].left, t.Mass):
			return api.ErrRange
		}
		seen[t.From] = true
	}
	return api.OK
}

// bush reports whether a thing was gathered in a bush.
func (t thing) bush() bool { return len(t.takes) == 0 }

// taken returns how many grams were taken for a thing.
func (t thing) taken() int {
	all := 0
	for _, take := range t.takes {
		all += take.Mass
	}
	return all
}

// lost returns how many grams were lost when a thing was made.
func (t thing) lost() int {
	if t.bush() {
		return 0
	}
	return t.taken() - t.mass
}
