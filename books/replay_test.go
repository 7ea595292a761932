package books_test

import (
	"testing"

	"spile/api"
	"spile/books"
)

// sameState compares what a book comes to.
func sameState(t *testing.T, l []api.BookEntry, want api.BookState) {
	t.Helper()
	sameReplay(t, l, want, 0, api.OK)
}

// refused compares the error of the last entry of a book, without which the book is possible.
func refused(t *testing.T, e api.Errno, l ...api.BookEntry) {
	t.Helper()
	last := len(l) - 1
	if _, _, f := books.Replay(l[:last]); f != api.OK {
		t.Errorf("Replay of %v: %d", l[:last], f)
	}
	sameReplay(t, l, api.BookState{}, last, e)
	// What comes behind it does not matter.
	sameReplay(t, append(joined(l), ship(0, 7), spill(365, mass)), api.BookState{}, last, e)
}

func TestP12_7Example(t *testing.T) {
	sameState(t, usualBook(), api.BookState{Barrels: barrels(barrel(1, 10, 20, 3)), Gathered: sap(980, 20), Steam: 970})
}

func TestP12_7NoEntry(t *testing.T) {
	sameState(t, nil, api.BookState{})
	sameState(t, book(), api.BookState{})
}

func TestP12_7Gather(t *testing.T) {
	sameState(t, book(gather(0, 3, 980, 20)), api.BookState{Tank: sap(980, 20), TankFrom: list(3), Gathered: sap(980, 20)})
	sameState(t, book(gather(365, 99, 0, 1)), api.BookState{Tank: sap(0, 1), TankFrom: list(99), Gathered: sap(0, 1)})
	sameState(t, book(gather(0, 0, 1, 0)), api.BookState{Tank: sap(1, 0), TankFrom: list(0), Gathered: sap(1, 0)})
	sameState(t, book(gather(0, 7, 980, 20), gather(0, 3, 500, 0), gather(0, 7, 1, 1), gather(9, 50, 0, 5)), api.BookState{Tank: sap(1481, 26), TankFrom: list(3, 7, 50), Gathered: sap(1481, 26)})
	// What is not even a gram brings no bush.
	sameState(t, book(gather(0, 3, 0, 0)), api.BookState{})
	sameState(t, book(gather(0, 3, 5, 0), gather(0, 4, 0, 0), gather(0, 2, 0, 0)), api.BookState{Tank: sap(5, 0), TankFrom: list(3), Gathered: sap(5, 0)})
	var l []api.BookEntry
	want := api.BookState{Tank: sap(100, 200), TankFrom: upTo(100), Gathered: sap(100, 200)}
	for bush := range 100 {
		l = append(l, gather(bush, 99-bush, 1, 2))
	}
	sameState(t, l, want)
}

// TestP12_7Spill draws all, one gram less and one gram more.
func TestP12_7Spill(t *testing.T) {
	first := gather(1, 3, 970, 30)
	sameState(t, book(first, spill(1, 34)), api.BookState{Tank: sap(937, 29), TankFrom: list(3), Gathered: sap(970, 30), Spilt: sap(33, 1)})
	sameState(t, book(first, spill(1, 33)), api.BookState{Tank: sap(937, 30), TankFrom: list(3), Gathered: sap(970, 30), Spilt: sap(33, 0)})
	sameState(t, book(first, spill(1, 0)), api.BookState{Tank: sap(970, 30), TankFrom: list(3), Gathered: sap(970, 30)})
	sameState(t, book(first, spill(1, 999)), api.BookState{Tank: sap(0, 1), TankFrom: list(3), Gathered: sap(970, 30), Spilt: sap(970, 29)})
	sameState(t, book(first, spill(1, 1000)), api.BookState{Gathered: sap(970, 30), Spilt: sap(970, 30)})
	sameState(t, book(first, spill(1, 1000), spill(1, 0), gather(1, 4, 1, 0)), api.BookState{Tank: sap(1, 0), TankFrom: list(4), Gathered: sap(971, 30), Spilt: sap(970, 30)})
	sameState(t, book(spill(1, 0)), api.BookState{})
	refused(t, api.ErrRange, first, spill(1, 1001))
	refused(t, api.ErrRange, first, spill(1, mass))
	refused(t, api.ErrRange, spill(1, 1))
	refused(t, api.ErrRange, first, spill(1, 1000), spill(1, 1))
	refused(t, api.ErrRange, first, spill(1, 999), spill(1, 2))
	// Each draws from what is left, and the sugar is rounded each time.
	sameState(t, book(gather(1, 3, 1, 2), spill(1, 1), spill(1, 1)), api.BookState{Tank: sap(0, 1), TankFrom: list(3), Gathered: sap(1, 2), Spilt: sap(1, 1)})
	sameState(t, book(gather(0, 3, mass, mass), spill(0, mass), spill(0, mass)), api.BookState{Gathered: sap(mass, mass), Spilt: sap(mass, mass)})
}

// TestP12_7Boil boils off all water of what is drawn, and one gram more.
func TestP12_7Boil(t *testing.T) {
	first := gather(1, 3, 970, 30)
	sameState(t, book(first, boil(1, 34, 30)), api.BookState{Tank: sap(937, 29), TankFrom: list(3), Kettle: sap(3, 1), KettleFrom: list(3), Gathered: sap(970, 30), Steam: 30})
	sameState(t, book(first, boil(1, 34, 0)), api.BookState{Tank: sap(937, 29), TankFrom: list(3), Kettle: sap(33, 1), KettleFrom: list(3), Gathered: sap(970, 30)})
	sameState(t, book(first, boil(1, 34, 33)), api.BookState{Tank: sap(937, 29), TankFrom: list(3), Kettle: sap(0, 1), KettleFrom: list(3), Gathered: sap(970, 30), Steam: 33})
	refused(t, api.ErrState, first, boil(1, 34, 34))
	refused(t, api.ErrState, first, boil(1, 0, 1))
	refused(t, api.ErrState, boil(1, 0, 1))
	refused(t, api.ErrState, first, boil(1, 1000, 971))
	refused(t, api.ErrState, first, boil(1, 1000, mass))
	refused(t, api.ErrRange, first, boil(1, 1001, 971))
	refused(t, api.ErrRange, first, boil(1, mass, mass))
	refused(t, api.ErrRange, first, boil(1, 1001, 0))
	refused(t, api.ErrRange, boil(1, 1, 0))
	refused(t, api.ErrRange, boil(1, 1, 1))
	sameState(t, book(boil(1, 0, 0)), api.BookState{})
	// All of the tank, to which its bushes do not belong any more; what goes off is not in the kettle.
	sameState(t, book(first, boil(1, 1000, 970), gather(1, 4, 7, 0)), api.BookState{Tank: sap(7, 0), TankFrom: list(4), Kettle: sap(0, 30), KettleFrom: list(3), Gathered: sap(977, 30), Steam: 970})
	sameState(t, book(first, boil(1, 999, 970)), api.BookState{Tank: sap(0, 1), TankFrom: list(3), Kettle: sap(0, 29), KettleFrom: list(3), Gathered: sap(970, 30), Steam: 970})
	// If nothing is left of what is drawn, or nothing is drawn, it brings no bush.
	sameState(t, book(first, boil(1, 33, 33)), api.BookState{Tank: sap(937, 30), TankFrom: list(3), Gathered: sap(970, 30), Steam: 33})
	sameState(t, book(first, boil(1, 0, 0)), api.BookState{Tank: sap(970, 30), TankFrom: list(3), Gathered: sap(970, 30)})
	sameState(t, book(gather(1, 3, 5, 0), boil(1, 5, 5)), api.BookState{Gathered: sap(5, 0), Steam: 5})
	sameState(t, book(gather(1, 3, 5, 0), boil(1, 5, 4)), api.BookState{Kettle: sap(1, 0), KettleFrom: list(3), Gathered: sap(5, 0), Steam: 4})
	// More comes into the kettle, with all bushes from which the tank comes then.
	sameState(t, book(first, boil(1, 34, 30), gather(2, 1, 0, 1), boil(2, 1, 0), gather(2, 9, 5, 5)), api.BookState{Tank: sap(941, 35), TankFrom: list(1, 3, 9), Kettle: sap(4, 1), KettleFrom: list(1, 3), Gathered: sap(975, 36), Steam: 30})
	sameState(t, book(first, boil(1, 1000, 970), gather(2, 1, 3, 0), boil(2, 3, 3)), api.BookState{Kettle: sap(0, 30), KettleFrom: list(3), Gathered: sap(973, 30), Steam: 973})
	sameState(t, book(gather(0, 1, mass, 0), boil(0, mass, mass)), api.BookState{Gathered: sap(mass, 0), Steam: mass})
}

// cooked is a season with 40 grams of the bushes 3 and 5 in the kettle.
func cooked() []api.BookEntry {
	return book(gather(1, 5, 490, 10), gather(1, 3, 480, 20), boil(1, 1000, 960))
}

// TestP12_7Fill fills all, one gram more, nothing, and barrels that there are already.
func TestP12_7Fill(t *testing.T) {
	all := sap(970, 30)
	with := func(l ...api.BookEntry) []api.BookEntry { return append(cooked(), l...) }
	sameState(t, cooked(), api.BookState{Kettle: sap(10, 30), KettleFrom: list(3, 5), Gathered: all, Steam: 960})
	sameState(t, with(fill(1, 12, 9)), api.BookState{Kettle: sap(7, 21), KettleFrom: list(3, 5), Barrels: barrels(barrel(9, 3, 9, 3, 5)), Gathered: all, Steam: 960})
	sameState(t, with(fill(1, 39, 0)), api.BookState{Kettle: sap(0, 1), KettleFrom: list(3, 5), Barrels: barrels(barrel(0, 10, 29, 3, 5)), Gathered: all, Steam: 960})
	sameState(t, with(fill(1, 40, mass)), api.BookState{Barrels: barrels(barrel(mass, 10, 30, 3, 5)), Gathered: all, Steam: 960})
	sameState(t, with(fill(1, 0, 1)), api.BookState{Kettle: sap(10, 30), KettleFrom: list(3, 5), Barrels: barrels(barrel(1, 0, 0)), Gathered: all, Steam: 960})
	sameState(t, with(fill(1, 40, 2), fill(1, 0, 1)), api.BookState{Barrels: barrels(barrel(1, 0, 0), barrel(2, 10, 30, 3, 5)), Gathered: all, Steam: 960})
	sameState(t, book(fill(1, 0, 1), fill(1, 0, mass), fill(1, 0, 0)), api.BookState{Barrels: barrels(barrel(0, 0, 0), barrel(1, 0, 0), barrel(mass, 0, 0))})
	refused(t, api.ErrRange, with(fill(1, 41, 1))...)
	refused(t, api.ErrRange, with(fill(1, mass, 1))...)
	refused(t, api.ErrRange, with(fill(1, 20, 1), fill(1, 21, 2))...)
	refused(t, api.ErrRange, with(fill(1, 20, 1), fill(1, 21, 1))...)
	refused(t, api.ErrRange, fill(1, 1, 1))
	refused(t, api.ErrRange, gather(1, 3, 50, 50), fill(1, 1, 1))
	refused(t, api.ErrTwice, with(fill(1, 20, 1), fill(1, 20, 1))...)
	refused(t, api.ErrTwice, with(fill(1, 20, 1), fill(1, 0, 1))...)
	refused(t, api.ErrTwice, with(fill(1, 0, 1), fill(1, 20, 1))...)
	refused(t, api.ErrTwice, fill(1, 0, 0), fill(1, 0, 0))
	refused(t, api.ErrTwice, fill(1, 0, mass), fill(1, 0, mass))
	// The bushes are those from which the kettle comes then.
	sameState(t, with(fill(1, 40, 1), gather(2, 7, 1, 1), boil(2, 2, 0), fill(2, 1, 2), gather(3, 4, 1, 1), boil(3, 2, 0), fill(4, 1, 3)), api.BookState{
		Kettle: sap(0, 2), KettleFrom: list(4, 7), Barrels: barrels(barrel(1, 10, 30, 3, 5), barrel(2, 1, 0, 7), barrel(3, 1, 0, 4, 7)), Gathered: sap(972, 32), Steam: 960,
	})
}

// TestP12_7Blend pours barrels that there are, that there are not, that are poured into themselves, and that are filled again.
func TestP12_7Blend(t *testing.T) {
	before := append(cooked(), fill(1, 20, 1), fill(1, 20, 2), gather(2, 4, 8, 8), boil(2, 16, 0), fill(2, 10, 3), fill(2, 0, 4))
	with := func(l ...api.BookEntry) []api.BookEntry { return append(joined(before), l...) }
	is := func(l ...api.BookBarrel) api.BookState {
		return api.BookState{Kettle: sap(3, 3), KettleFrom: list(4), Barrels: l, Gathered: sap(978, 38), Steam: 960}
	}
	one, two, three, four := barrel(1, 5, 15, 3, 5), barrel(2, 5, 15, 3, 5), barrel(3, 5, 5, 4), barrel(4, 0, 0)
	sameState(t, before, is(one, two, three, four))
	sameState(t, with(blend(2, 1, 2)), is(barrel(2, 10, 30, 3, 5), three, four))
	sameState(t, with(blend(2, 2, 1)), is(barrel(1, 10, 30, 3, 5), three, four))
	sameState(t, with(blend(2, 3, 1)), is(barrel(1, 10, 20, 3, 4, 5), two, four))
	sameState(t, with(blend(2, 1, 3)), is(two, barrel(3, 10, 20, 3, 4, 5), four))
	sameState(t, with(blend(2, 4, 3)), is(one, two, three))
	sameState(t, with(blend(2, 3, 4)), is(one, two, barrel(4, 5, 5, 4)))
	sameState(t, with(blend(2, 1, 2), blend(2, 2, 3), blend(2, 3, 4)), is(barrel(4, 15, 35, 3, 4, 5)))
	sameState(t, with(blend(2, 1, 2), fill(2, 6, 1), blend(2, 2, 1)), api.BookState{Barrels: barrels(barrel(1, 13, 33, 3, 4, 5), three, four), Gathered: sap(978, 38), Steam: 960})
	sameState(t, with(blend(2, 3, 1), fill(2, 0, 3)), is(barrel(1, 10, 20, 3, 4, 5), two, barrel(3, 0, 0), four))
	refused(t, api.ErrTwice, with(blend(2, 1, 1))...)
	refused(t, api.ErrTwice, with(blend(2, 4, 4))...)
	refused(t, api.ErrTwice, with(blend(2, 7, 7))...)
	refused(t, api.ErrTwice, blend(2, 0, 0))
	refused(t, api.ErrTwice, blend(2, mass, mass))
	refused(t, api.ErrNone, with(blend(2, 7, 1))...)
	refused(t, api.ErrNone, with(blend(2, 1, 7))...)
	refused(t, api.ErrNone, with(blend(2, 7, 8))...)
	refused(t, api.ErrNone, with(blend(2, 0, 1))...)
	refused(t, api.ErrNone, with(blend(2, 1, 0))...)
	refused(t, api.ErrNone, with(blend(2, 1, 2), blend(2, 1, 2))...)
	refused(t, api.ErrNone, with(blend(2, 1, 2), blend(2, 2, 1))...)
	refused(t, api.ErrNone, blend(2, 0, 1))
}

// TestP12_7Ship ships barrels that there are, and that there are not.
func TestP12_7Ship(t *testing.T) {
	before := append(cooked(), fill(1, 20, 1), fill(1, 16, 0), fill(1, 0, mass))
	with := func(l ...api.BookEntry) []api.BookEntry { return append(joined(before), l...) }
	is := func(shipped api.Sap, l ...api.BookBarrel) api.BookState {
		return api.BookState{Kettle: sap(1, 3), KettleFrom: list(3, 5), Barrels: l, Gathered: sap(970, 30), Steam: 960, Shipped: shipped}
	}
	none, one, last := barrel(0, 4, 12, 3, 5), barrel(1, 5, 15, 3, 5), barrel(mass, 0, 0)
	sameState(t, before, is(sap(0, 0), none, one, last))
	sameState(t, with(ship(1, 1)), is(sap(5, 15), none, last))
	sameState(t, with(ship(1, 0)), is(sap(4, 12), one, last))
	sameState(t, with(ship(1, mass)), is(sap(0, 0), none, one))
	sameState(t, with(ship(1, 1), ship(9, 0), ship(365, mass)), is(sap(9, 27)))
	sameState(t, with(blend(1, 1, 0), ship(1, 0)), is(sap(9, 27), last))
	sameState(t, with(ship(1, 1), fill(1, 0, 1)), is(sap(5, 15), none, barrel(1, 0, 0), last))
	refused(t, api.ErrNone, with(ship(1, 2))...)
	refused(t, api.ErrNone, with(ship(1, mass-1))...)
	refused(t, api.ErrNone, with(ship(1, 1), ship(1, 1))...)
	refused(t, api.ErrNone, with(blend(1, 1, 0), ship(1, 1))...)
	refused(t, api.ErrNone, with(ship(1, 1), blend(1, 1, 0))...)
	refused(t, api.ErrNone, with(ship(1, 1), blend(1, 0, 1))...)
	refused(t, api.ErrNone, ship(0, 0))
}

// TestP12_7Days has days that fall, before any other error.
func TestP12_7Days(t *testing.T) {
	sameState(t, book(gather(0, 1, 1, 1), gather(0, 1, 1, 1), gather(1, 1, 1, 1), gather(365, 1, 1, 1), gather(365, 1, 1, 1)), api.BookState{Tank: sap(5, 5), TankFrom: list(1), Gathered: sap(5, 5)})
	refused(t, api.ErrState, gather(1, 1, 1, 1), gather(0, 1, 1, 1))
	refused(t, api.ErrState, gather(0, 1, 1, 1), gather(365, 1, 1, 1), gather(364, 1, 1, 1))
	for _, x := range book(gather(3, 1, mass, 0), spill(3, 9), boil(3, 9, 9), boil(3, 0, 1), fill(3, 9, 1), fill(3, 9, 2), fill(3, 0, 1), blend(3, 2, 2), blend(3, 2, 1), ship(3, 2), spill(3, 0)) {
		refused(t, api.ErrState, gather(4, 1, 1, 1), fill(4, 0, 1), x)
	}
}

// TestP12_7Most has as much as there may be, and one gram more.
func TestP12_7Most(t *testing.T) {
	full := gather(0, 1, mass, mass)
	sameState(t, book(full), api.BookState{Tank: sap(mass, mass), TankFrom: list(1), Gathered: sap(mass, mass)})
	sameState(t, book(full, boil(0, mass, 0), boil(0, mass, 0)), api.BookState{Kettle: sap(mass, mass), KettleFrom: list(1), Gathered: sap(mass, mass)})
	sameState(t, book(full, boil(0, mass, 0), boil(0, mass, 0), fill(0, mass, 1), fill(0, mass, 2), blend(0, 1, 2)), api.BookState{Barrels: barrels(barrel(2, mass, mass, 1)), Gathered: sap(mass, mass)})
	sameState(t, book(full, boil(0, mass, mass/2), boil(0, mass, mass/2), fill(0, mass, 1), ship(0, 1)), api.BookState{Gathered: sap(mass, mass), Steam: mass, Shipped: sap(0, mass)})
	refused(t, api.ErrOver, full, gather(0, 1, 1, 0))
	refused(t, api.ErrOver, full, gather(0, 1, 0, 1))
	refused(t, api.ErrOver, full, full)
	refused(t, api.ErrOver, gather(0, 1, mass-5, 0), gather(0, 2, 6, 0))
	refused(t, api.ErrOver, gather(0, 1, 0, mass-5), gather(0, 2, 0, 6))
	sameState(t, book(gather(0, 1, mass-5, mass-6), gather(0, 2, 5, 6)), api.BookState{Tank: sap(mass, mass), TankFrom: list(1, 2), Gathered: sap(mass, mass)})
	sameState(t, book(full, gather(0, 2, 0, 0)), api.BookState{Tank: sap(mass, mass), TankFrom: list(1), Gathered: sap(mass, mass)})
	// All that was gathered counts, wherever it is now.
	refused(t, api.ErrOver, full, spill(0, mass), spill(0, mass), gather(0, 1, 1, 0))
	refused(t, api.ErrOver, full, boil(0, mass, 0), gather(0, 1, 0, 1))
	refused(t, api.ErrOver, gather(0, 1, mass, 0), boil(0, mass, mass), gather(0, 1, 1, 0))
	sameState(t, book(gather(0, 1, mass, 0), boil(0, mass, mass), gather(0, 2, 0, mass)), api.BookState{Tank: sap(0, mass), TankFrom: list(2), Gathered: sap(mass, mass), Steam: mass})
}

// TestP12_7Errors has several errors at once: the one named first is returned.
func TestP12_7Errors(t *testing.T) {
	wrong, late := spill(-1, 5), append(book(gather(5, 1, 1, 1)), times(298, spill(4, 9))...)
	sameReplay(t, times(301, wrong), api.BookState{}, 0, api.ErrLong)
	sameReplay(t, times(301, spill(0, 0)), api.BookState{}, 0, api.ErrLong)
	sameReplay(t, times(100000, spill(0, 5)), api.BookState{}, 0, api.ErrLong)
	sameReplay(t, append(late, wrong), api.BookState{}, 0, api.ErrArg)
	sameReplay(t, append(late, spill(4, 9)), api.BookState{}, 1, api.ErrState)
	sameReplay(t, append(book(spill(0, 5)), wrong), api.BookState{}, 0, api.ErrArg)
	sameState(t, times(300, spill(0, 0)), api.BookState{})
	for n := range 299 {
		sameReplay(t, append(times(n+1, spill(1, 0)), spill(0, 0)), api.BookState{}, n+1, api.ErrState)
		sameReplay(t, append(times(n, spill(1, 0)), ship(1, 0)), api.BookState{}, n, api.ErrNone)
	}
}

// TestP12_7Definitions compares any books, possible and not.
func TestP12_7Definitions(t *testing.T) {
	d := dice()
	seen := map[api.Errno]int{}
	for i := range 6000 {
		l := anyBook(d, pick(d, 0, anyOf(d, 5, 20, 60)))
		s, at, e := replayOf(l)
		sameReplay(t, l, s, at, e)
		for range pick(d, 0, 2) {
			if len(l) == 0 {
				break
			}
			x := &l[d.IntN(len(l))]
			*anyOf(d, &x.Day, &x.Item, &x.Grams, &x.Sap.Water, &x.Sap.Sugar) = anyOf(d, -1, 0, 1, 2, 5, 99, 100, 365, 366, mass, mass+1)
			if d.IntN(3) == 0 {
				x.Kind = api.BookKind(pick(d, 0, 7))
			}
		}
		if i%500 == 0 {
			l = append(l, times(300, spill(365, 0))...)
		}
		s, at, e = replayOf(l)
		sameReplay(t, l, s, at, e)
		seen[e]++
	}
	for _, e := range []api.Errno{api.OK, api.ErrArg, api.ErrState, api.ErrRange, api.ErrTwice, api.ErrNone, api.ErrOver} {
		if seen[e] < 10 {
			t.Error("too few of the error", e, seen)
		}
	}
}
