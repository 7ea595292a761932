package books_test

import (
	"maps"
	"math/big"
	"slices"

	"spile/api"
)

// pot is what is in the tank, the kettle or a barrel, and from which bushes.
type pot struct {
	api.Sap
	from []int
}

func (p pot) mass() int { return p.Water + p.Sugar }

// world is what has happened so far.
type world struct {
	day                      int
	tank, kettle             pot
	barrels                  map[int]pot
	gathered, spilt, shipped api.Sap
	steam                    int
}

func newWorld() *world { return &world{barrels: map[int]pot{}} }

// drawn returns what is drawn from a pot, and what is left.
func drawn(p pot, grams int) (out, left pot) {
	if grams > 0 {
		sugar := new(big.Int).Mul(big.NewInt(int64(p.Sugar)), big.NewInt(int64(grams)))
		out.Sugar = int(sugar.Div(sugar, big.NewInt(int64(p.mass()))).Int64())
		out.Water = grams - out.Sugar
		out.from = p.from
	}
	if p.mass() > grams {
		left = pot{sap(p.Water-out.Water, p.Sugar-out.Sugar), p.from}
	}
	return out, left
}

// poured returns what is in a pot when another one is poured into it.
func poured(p, in pot) pot {
	if in.mass() == 0 {
		return p
	}
	from := joined(p.from, in.from)
	slices.Sort(from)
	return pot{plus(p.Sap, in.Sap), slices.Compact(from)}
}

func plus(a, b api.Sap) api.Sap { return sap(a.Water+b.Water, a.Sugar+b.Sugar) }

// errorOf returns the error of an entry, the one named first.
func (w *world) errorOf(x api.BookEntry) api.Errno {
	_, item := w.barrels[x.Item]
	_, grams := w.barrels[x.Grams]
	boiled := func() int {
		out, _ := drawn(w.tank, x.Grams)
		return out.Water
	}
	switch k := x.Kind; {
	case x.Day < w.day:
		return api.ErrState
	case (k == api.BookSpill || k == api.BookBoil) && w.tank.mass() < x.Grams, k == api.BookFill && w.kettle.mass() < x.Grams:
		return api.ErrRange
	case k == api.BookBoil && boiled() < x.Item:
		return api.ErrState
	case k == api.BookFill && item, k == api.BookBlend && x.Item == x.Grams:
		return api.ErrTwice
	case (k == api.BookBlend || k == api.BookShip) && !item, k == api.BookBlend && !grams:
		return api.ErrNone
	case k == api.BookGather && (w.gathered.Water+x.Sap.Water > mass || w.gathered.Sugar+x.Sap.Sugar > mass):
		return api.ErrOver
	}
	return api.OK
}

// happen does what a valid entry tells, or nothing if it has an error.
func (w *world) happen(x api.BookEntry) api.Errno {
	if e := w.errorOf(x); e != api.OK {
		return e
	}
	w.day = x.Day
	var out pot
	switch x.Kind {
	case api.BookGather:
		w.gathered = plus(w.gathered, x.Sap)
		w.tank = poured(w.tank, pot{x.Sap, list(x.Item)})
	case api.BookSpill:
		out, w.tank = drawn(w.tank, x.Grams)
		w.spilt = plus(w.spilt, out.Sap)
	case api.BookBoil:
		out, w.tank = drawn(w.tank, x.Grams)
		out.Water -= x.Item
		w.steam += x.Item
		w.kettle = poured(w.kettle, out)
	case api.BookFill:
		out, w.kettle = drawn(w.kettle, x.Grams)
		w.barrels[x.Item] = out
	case api.BookBlend:
		w.barrels[x.Grams] = poured(w.barrels[x.Grams], w.barrels[x.Item])
		delete(w.barrels, x.Item)
	case api.BookShip:
		w.shipped = plus(w.shipped, w.barrels[x.Item].Sap)
		delete(w.barrels, x.Item)
	}
	return api.OK
}

// state returns what the world comes to.
func (w *world) state() api.BookState {
	s := api.BookState{Tank: w.tank.Sap, Kettle: w.kettle.Sap, TankFrom: w.tank.from, KettleFrom: w.kettle.from, Gathered: w.gathered, Spilt: w.spilt, Shipped: w.shipped, Steam: w.steam}
	for _, n := range slices.Sorted(maps.Keys(w.barrels)) {
		s.Barrels = append(s.Barrels, api.BookBarrel{Number: n, Sap: w.barrels[n].Sap, From: w.barrels[n].from})
	}
	return s
}

// validEntry is as the chapter says.
func validEntry(x api.BookEntry) bool {
	to := func(n, most int) bool { return n >= 0 && n <= most }
	item, grams, water := mass, mass, 0
	switch x.Kind {
	case api.BookGather:
		item, grams, water = 99, 0, mass
	case api.BookSpill:
		item = 0
	case api.BookShip:
		grams = 0
	case api.BookBoil, api.BookFill, api.BookBlend:
	default:
		return false
	}
	return to(x.Day, 365) && to(x.Item, item) && to(x.Grams, grams) && to(x.Sap.Water, water) && to(x.Sap.Sugar, water)
}

// bookErr returns the error of a book before anything happens.
func bookErr(l []api.BookEntry) api.Errno {
	if len(l) > 300 {
		return api.ErrLong
	}
	if slices.ContainsFunc(l, func(x api.BookEntry) bool { return !validEntry(x) }) {
		return api.ErrArg
	}
	return api.OK
}

func replayOf(l []api.BookEntry) (s api.BookState, at int, e api.Errno) {
	if e := bookErr(l); e != api.OK {
		return api.BookState{}, 0, e
	}
	w := newWorld()
	for i, x := range l {
		if e := w.happen(x); e != api.OK {
			return api.BookState{}, i, e
		}
	}
	return w.state(), 0, api.OK
}

// entryOf returns the bytes of an entry.
func entryOf(x api.BookEntry) []byte {
	return numbersOf(x.Day, int(x.Kind), x.Item, x.Grams, x.Sap.Water, x.Sap.Sugar)
}

func sealsOf(l []api.BookEntry) ([]int, api.Errno) {
	if e := bookErr(l); e != api.OK {
		return nil, e
	}
	var seals []int
	seal := big.NewInt(7)
	for _, x := range l {
		for _, b := range entryOf(x) {
			seal.Mul(seal, big.NewInt(257)).Add(seal, big.NewInt(int64(b)+1)).Mod(seal, big.NewInt(999999999989))
		}
		seals = append(seals, int(seal.Int64()))
	}
	return seals, api.OK
}

// chained returns the bytes of entries, whatever they are, with right sums.
func chained(entries ...[]byte) []byte {
	var b, before []byte
	for _, own := range entries {
		before = highFirst(sumOf(joined(own, before)), 2)
		b = joined(b, own, before)
	}
	return b
}

// rawBook returns the bytes of a book, valid or not, with right sums.
func rawBook(l []api.BookEntry) []byte {
	var entries [][]byte
	for _, x := range l {
		entries = append(entries, entryOf(x))
	}
	return chained(entries...)
}

func writeBookOf(l []api.BookEntry) ([]byte, api.Errno) {
	if e := bookErr(l); e != api.OK {
		return nil, e
	}
	return rawBook(l), api.OK
}

// readEntryOf returns the entry with which bytes begin, behind a sum, and how many bytes it has with its own sum, or its error.
func readEntryOf(b, before []byte) (x api.BookEntry, used int, e api.Errno) {
	var l []int
	for range 6 {
		n, more, e := getOf(b[used:])
		if e == api.ErrRange {
			e = api.ErrForm
		}
		if e != api.OK {
			return api.BookEntry{}, 0, e
		}
		l, used = append(l, n), used+more
	}
	if len(b) < used+2 {
		return api.BookEntry{}, 0, api.ErrEnd
	}
	if sumOf(joined(b[:used], before)) != int(b[used])*256+int(b[used+1]) {
		return api.BookEntry{}, 0, api.ErrSum
	}
	x = api.BookEntry{Day: l[0], Kind: api.BookKind(l[1]), Item: l[2], Grams: l[3], Sap: sap(l[4], l[5])}
	if !validEntry(x) {
		return api.BookEntry{}, 0, api.ErrForm
	}
	return x, used + 2, api.OK
}

func readBookOf(b []byte) (l []api.BookEntry, at int, e api.Errno) {
	if len(b) > 30000 {
		return nil, 0, api.ErrLong
	}
	var before []byte
	for len(b) > 0 {
		x, used, e := readEntryOf(b, before)
		if e != api.OK {
			return nil, len(l), e
		}
		l, before, b = append(l, x), b[used-2:used], b[used:]
	}
	if len(l) > 300 {
		return nil, 0, api.ErrLong
	}
	return l, 0, api.OK
}

func rescueOf(b []byte) (l []api.BookEntry, bytes int, e api.Errno) {
	if len(b) > 30000 {
		return nil, 0, api.ErrLong
	}
	var before []byte
	for len(l) < 300 {
		x, used, e := readEntryOf(b[bytes:], before)
		if e != api.OK {
			break
		}
		l, bytes = append(l, x), bytes+used
		before = b[bytes-2 : bytes]
	}
	return l, bytes, api.OK
}
