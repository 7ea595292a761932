package barrel_test

import (
	"fmt"
	"math/rand/v2"
	"slices"
	"strings"
	"testing"

	"spile/api"
	"spile/barrel"
)

// keeper is what keeps things: a ledger, or a store.
type keeper interface {
	Gather(mass int) (int, api.Errno)
	Make(takes []api.Take, mass int) (int, api.Errno)
	Left(item int) (left, lost int, e api.Errno)
	Trace(item int) ([]int, api.Errno)
	Recall(bush int) ([]int, api.Errno)
	Amount(item, bush int) (api.Range, api.Errno)
}

// store is a ledger by the definitions: it keeps the masses, and all that was taken, and finds the rest out when it is asked.
type store struct {
	masses []int
	takes  [][]api.Take
}

// left returns what was not taken of a thing.
func (k *store) left(item int) int {
	left := k.masses[item]
	for _, l := range k.takes {
		for _, x := range l {
			if x.From == item {
				left -= x.Mass
			}
		}
	}
	return left
}

// lost returns what was lost when a thing was made.
func (k *store) lost(item int) int {
	if len(k.takes[item]) == 0 {
		return 0
	}
	lost := -k.masses[item]
	for _, x := range k.takes[item] {
		lost += x.Mass
	}
	return lost
}

func (k *store) Gather(mass int) (int, api.Errno) {
	switch {
	case len(k.masses) == 200:
		return 0, api.ErrFull
	case mass < 1, mass > ton:
		return 0, api.ErrRange
	}
	return k.add(nil, mass), api.OK
}

func (k *store) add(takes []api.Take, mass int) int {
	k.masses, k.takes = append(k.masses, mass), append(k.takes, slices.Clone(takes))
	return len(k.masses) - 1
}

func (k *store) Make(takes []api.Take, mass int) (int, api.Errno) {
	switch {
	case len(k.masses) == 200:
		return 0, api.ErrFull
	case len(takes) > 20:
		return 0, api.ErrLong
	case len(takes) == 0:
		return 0, api.ErrForm
	}
	all := 0
	for i, x := range takes {
		if x.From < 0 || x.From >= len(k.masses) {
			return 0, api.ErrNone
		}
		for _, before := range takes[:i] {
			if before.From == x.From {
				return 0, api.ErrTwice
			}
		}
		if x.Mass < 1 || x.Mass > k.left(x.From) {
			return 0, api.ErrRange
		}
		all += x.Mass
	}
	if mass < 1 || mass > ton || mass > all {
		return 0, api.ErrRange
	}
	return k.add(takes, mass), api.OK
}

func (k *store) Left(item int) (left, lost int, e api.Errno) {
	if item < 0 || item >= len(k.masses) {
		return 0, 0, api.ErrNone
	}
	return k.left(item), k.lost(item), api.OK
}

// has reports whether something of a bush was taken for a thing, over any steps.
func (k *store) has(item, bush int) bool {
	return item == bush || slices.ContainsFunc(k.takes[item], func(x api.Take) bool { return k.has(x.From, bush) })
}

// bush returns the error of a number of a bush.
func (k *store) bush(n int) api.Errno {
	switch {
	case n < 0 || n >= len(k.masses):
		return api.ErrNone
	case len(k.takes[n]) > 0:
		return api.ErrArg
	}
	return api.OK
}

func (k *store) Trace(item int) ([]int, api.Errno) {
	if item < 0 || item >= len(k.masses) {
		return nil, api.ErrNone
	}
	var l []int
	for bush := range k.masses {
		if len(k.takes[bush]) == 0 && k.has(item, bush) {
			l = append(l, bush)
		}
	}
	return l, api.OK
}

func (k *store) Recall(bush int) ([]int, api.Errno) {
	if e := k.bush(bush); e != api.OK {
		return nil, e
	}
	var l []int
	for item := range k.masses {
		if k.has(item, bush) {
			l = append(l, item)
		}
	}
	return l, api.OK
}

func (k *store) Amount(item, bush int) (api.Range, api.Errno) {
	if item < 0 || item >= len(k.masses) {
		return api.Range{}, api.ErrNone
	}
	if e := k.bush(bush); e != api.OK {
		return api.Range{}, e
	}
	return k.amount(item, bush), api.OK
}

// amount follows all ways from a thing to a bush.
func (k *store) amount(item, bush int) api.Range {
	if item == bush {
		return one(k.masses[item])
	}
	if len(k.takes[item]) == 0 {
		return one(0)
	}
	least, most := 0, 0
	for _, x := range k.takes[item] {
		of, m := k.amount(x.From, bush), k.masses[x.From]
		least += max(0, of.Low-(m-x.Mass))
		most += min(of.High, x.Mass)
	}
	return r(max(0, least-k.lost(item)), min(most, k.masses[item]))
}

// account returns all that is told of so many things, and of numbers beside them.
func account(k keeper, things int) string {
	var text strings.Builder
	for item := -1; item <= things; item++ {
		left, lost, e := k.Left(item)
		fmt.Fprintln(&text, "Left", item, left, lost, e)
		l, e := k.Trace(item)
		fmt.Fprintln(&text, "Trace", l, e)
		l, e = k.Recall(item)
		fmt.Fprintln(&text, "Recall", l, e)
		for bush := -1; bush <= things; bush++ {
			a, e := k.Amount(item, bush)
			fmt.Fprintln(&text, "Amount", a, e)
		}
	}
	return text.String()
}

// step is something that is done to a ledger.
type step struct {
	takes []api.Take
	mass  int
	make  bool
}

// do returns what is told then.
func (x step) do(k keeper) (int, api.Errno) {
	if x.make {
		return k.Make(x.takes, x.mass)
	}
	return k.Gather(x.mass)
}

// anyStep returns a step that is sometimes refused, by what is left in a store.
func anyStep(d *rand.Rand, k *store) step {
	x := step{mass: pick(d, 1, 30), make: d.IntN(3) > 0}
	if !x.make {
		if d.IntN(8) == 0 {
			x.mass = []int{0, -1, ton + 1}[d.IntN(3)]
		}
		return x
	}
	all := 0
	for _, from := range d.Perm(len(k.masses))[:min(len(k.masses), pick(d, 0, 4))] {
		take := api.Take{From: from, Mass: pick(d, 1, max(1, k.left(from)))}
		if d.IntN(4) == 0 {
			take.Mass = k.left(from) + pick(d, 0, d.IntN(3))
		}
		if d.IntN(20) == 0 {
			take.From = []int{-1, len(k.masses), 0}[d.IntN(3)]
		}
		x.takes = append(x.takes, take)
		all += take.Mass
	}
	if len(x.takes) > 0 && d.IntN(12) == 0 {
		x.takes = append(x.takes, x.takes[0])
	}
	x.mass = pick(d, 1, max(1, all))
	if d.IntN(8) == 0 {
		x.mass = []int{0, all, all + 1}[d.IntN(3)]
	}
	return x
}

// someThings does any steps to a ledger and to a store, which both are new, until there are so many things.
func someThings(t *testing.T, d *rand.Rand, n int) (*barrel.Ledger, *store) {
	t.Helper()
	l, k := barrel.NewLedger(), &store{}
	for len(k.masses) < n {
		x := anyStep(d, k)
		got, e := x.do(l)
		want, wantErr := x.do(k)
		same(t, fmt.Sprint("step ", x), got, e, want, wantErr)
		if t.Failed() {
			t.FailNow()
		}
	}
	return l, k
}

// ledger returns a ledger with what was gathered, and add adds what is made; neither may have an error.
func ledger(t *testing.T, masses ...int) *barrel.Ledger {
	t.Helper()
	l := barrel.NewLedger()
	for i, m := range masses {
		n, e := l.Gather(m)
		if n != i || e != api.OK {
			t.Fatal("Gather", m, n, e)
		}
	}
	return l
}

func add(t *testing.T, l keeper, mass int, n ...int) int {
	t.Helper()
	item, e := l.Make(takes(n...), mass)
	if e != api.OK {
		t.Fatal("Make", n, mass, e)
	}
	return item
}

// sameLeft asks Left, and the next ones ask the others.
func sameLeft(t *testing.T, l keeper, item, wantLeft, wantLost int, wantErr api.Errno) {
	t.Helper()
	left, lost, e := l.Left(item)
	same(t, fmt.Sprint("Left of ", item), [2]int{left, lost}, e, [2]int{wantLeft, wantLost}, wantErr)
}

func sameTrace(t *testing.T, l keeper, item int, want []int, wantErr api.Errno) {
	t.Helper()
	bushes, e := l.Trace(item)
	sameList(t, fmt.Sprint("Trace of ", item), bushes, e, want, wantErr)
}

func sameRecall(t *testing.T, l keeper, bush int, want []int, wantErr api.Errno) {
	t.Helper()
	items, e := l.Recall(bush)
	sameList(t, fmt.Sprint("Recall of ", bush), items, e, want, wantErr)
}

func sameAmount(t *testing.T, l keeper, item, bush int, want api.Range, wantErr api.Errno) {
	t.Helper()
	amount, e := l.Amount(item, bush)
	same(t, fmt.Sprint("Amount of ", bush, " in ", item), amount, e, want, wantErr)
}
