package books_test

import (
	"math/rand/v2"
	"slices"

	"spile/api"
)

const (
	low  = -1 << 63
	high = 1<<63 - 1

	far  = 1000000000000000 // the greatest number that is written
	mass = 1000000000000    // the greatest mass of water, or of sugar
)

func list(l ...int) []int { return l }

// octets returns bytes.
func octets(l ...int) []byte {
	var b []byte
	for _, n := range l {
		b = append(b, byte(n))
	}
	return b
}

// times returns a list of so many equal things.
func times[T any](n int, x T) []T { return slices.Repeat([]T{x}, n) }

// joined returns lists one behind another, in new memory.
func joined[T any](l ...[]T) []T { return slices.Concat(l...) }

// between returns a range.
func between(a, b int) api.Range { return api.Range{Low: a, High: b} }

func sap(water, sugar int) api.Sap { return api.Sap{Water: water, Sugar: sugar} }

func pipe(parent, length, bore, drop, taps int) api.Pipe {
	return api.Pipe{Parent: parent, Length: length, Bore: bore, Drop: drop, Taps: taps}
}

// net returns tubing of a pump and of the pipes of the nodes from 1 on.
func net(pump int, pipes ...api.Pipe) api.Net {
	return api.Net{Pump: pump, Pipes: append([]api.Pipe{{Parent: -1}}, pipes...)}
}

// bush is the tubing of chapter 3's examples, and bushWith changes it.
func bush() api.Net {
	return net(8000, pipe(0, 1000, 20, 500, 0), pipe(1, 400, 8, -30, 5), pipe(1, 300, 8, 100, 4), pipe(3, 200, 8, 50, 2))
}

func bushWith(change func(n *api.Net)) api.Net {
	n := bush()
	change(&n)
	return n
}

// at returns a line of a log, and lines several ones.
func at(minute, node, value int) api.LogLine {
	return api.LogLine{Minute: minute, Node: node, Value: value}
}

func lines(l ...api.LogLine) []api.LogLine { return l }

// apart returns so many lines that are so many minutes apart.
func apart(n, minutes int) []api.LogLine {
	var l []api.LogLine
	for i := range n {
		l = append(l, at(i*minutes, i%60, i))
	}
	return l
}

// later returns lines that are so many minutes later.
func later(l []api.LogLine, minutes int) []api.LogLine {
	l = slices.Clone(l)
	for i := range l {
		l[i].Minute += minutes
	}
	return l
}

// card returns a card, and cards several ones.
func card(number, grams, a, b int, from ...int) api.Card {
	return api.Card{Number: number, Mass: grams, Brix: between(a, b), From: from}
}

func cards(l ...api.Card) []api.Card { return l }

// numbered returns cards with the numbers from 1 on.
func numbered(n int) []api.Card {
	var l []api.Card
	for i := range n {
		l = append(l, card(i+1, 0, 0, 0, 0))
	}
	return l
}

// gather and the next ones return entries of a day.
func gather(day, bush, water, sugar int) api.BookEntry {
	return api.BookEntry{Day: day, Kind: api.BookGather, Item: bush, Sap: sap(water, sugar)}
}

func spill(day, grams int) api.BookEntry {
	return api.BookEntry{Day: day, Kind: api.BookSpill, Grams: grams}
}

func boil(day, grams, off int) api.BookEntry {
	return api.BookEntry{Day: day, Kind: api.BookBoil, Item: off, Grams: grams}
}

func fill(day, grams, barrel int) api.BookEntry {
	return api.BookEntry{Day: day, Kind: api.BookFill, Item: barrel, Grams: grams}
}

func blend(day, barrel, into int) api.BookEntry {
	return api.BookEntry{Day: day, Kind: api.BookBlend, Item: barrel, Grams: into}
}

func ship(day, barrel int) api.BookEntry {
	return api.BookEntry{Day: day, Kind: api.BookShip, Item: barrel}
}

func book(l ...api.BookEntry) []api.BookEntry { return l }

// barrel returns a barrel of a book.
func barrel(number, water, sugar int, from ...int) api.BookBarrel {
	return api.BookBarrel{Number: number, Sap: sap(water, sugar), From: from}
}

func barrels(l ...api.BookBarrel) []api.BookBarrel { return l }

// with returns a thing that is changed, the thing itself stays.
func with[T any](x T, change func(x *T)) T {
	change(&x)
	return x
}

// usualLog, usualCard and usualBook are those of the chapter's examples.
func usualLog() []api.LogLine { return lines(at(5, 3, 7000), at(5, 4, 7100), at(300, 3, 6900)) }

func usualCard() api.Card { return card(17, 25000, 6600, 6650, 3, 4) }

func usualBook() []api.BookEntry {
	return book(gather(1, 3, 980, 20), boil(1, 1000, 970), fill(2, 30, 1))
}

// dice returns numbers that are the same in each run.
func dice() *rand.Rand { return rand.New(rand.NewPCG(12, 12)) }

// pick returns a number from a to b.
func pick(d *rand.Rand, a, b int) int { return a + d.IntN(b-a+1) }

// anyOf returns one of several things.
func anyOf[T any](d *rand.Rand, l ...T) T { return l[d.IntN(len(l))] }

// anyNumber returns a number from -far to far, of any size.
func anyNumber(d *rand.Rand) int {
	n := d.IntN(1 << (1 + d.IntN(49)))
	return max(-far, min(far, anyOf(d, n, -n)))
}

// anyBytes returns so many bytes, many of which are 0, 127, 128 or 255.
func anyBytes(d *rand.Rand, n int) []byte {
	var b []byte
	for range n {
		b = append(b, anyOf(d, 0, 1, 2, 127, 128, 129, 255, byte(d.IntN(256)), byte(d.IntN(256))))
	}
	return b
}

// someBushes returns so many numbers of bushes, in ascending order.
func someBushes(d *rand.Rand, n int) []int {
	l := d.Perm(100)[:n]
	slices.Sort(l)
	return l
}

// anyNet returns tubing with so many nodes.
func anyNet(d *rand.Rand, nodes int) api.Net {
	n := net(pick(d, 0, 10000))
	for i := range nodes - 1 {
		n.Pipes = append(n.Pipes, pipe(pick(d, 0, i), pick(d, 1, anyOf(d, 100, 100000)), pick(d, 4, 80), pick(d, -10000, 10000), pick(d, 0, anyOf(d, 9, 1000))))
	}
	return n
}

// anyLog returns a log of so many lines, of which some are of the same minute, some just in the same page and some just not.
func anyLog(d *rand.Rand, n int) []api.LogLine {
	var l []api.LogLine
	most := anyOf(d, 0, 3, 300)
	x := at(pick(d, 0, anyOf(d, 10, 900000000)), pick(d, 0, 59), 0)
	for range n {
		x.Value = pick(d, 0, 10000)
		l = append(l, x)
		x.Minute += anyOf(d, 0, 0, pick(d, 0, most), 254, 255, 255, 256, 257)
		if next := pick(d, 0, 59); x.Minute > l[len(l)-1].Minute || next > x.Node {
			x.Node = next
		} else {
			x.Minute++
		}
	}
	return l
}

// anyCards returns so many cards.
func anyCards(d *rand.Rand, n int) []api.Card {
	var l []api.Card
	number := 0
	for range n {
		number += pick(d, 1, anyOf(d, 1, 9, 4000))
		a, b := pick(d, 0, 10000), pick(d, 0, anyOf(d, 9, 10000))
		l = append(l, card(number, pick(d, 0, anyOf(d, 9, 1000000)), min(a, b), max(a, b), someBushes(d, anyOf(d, 1, 2, 3, 19, 20))...))
	}
	return l
}

// anyEntry returns an entry that may be possible, on the same day or a day later.
func anyEntry(d *rand.Rand, w *world) api.BookEntry {
	day := min(365, w.day+anyOf(d, 0, 0, 0, 1))
	all := func(p pot) int { return pick(d, 0, anyOf(d, 0, 5, p.mass(), p.mass(), p.mass()+1)) }
	number := func() int { return pick(d, 0, 6) }
	switch d.IntN(9) {
	case 0, 1:
		return gather(day, pick(d, 0, anyOf(d, 3, 99)), pick(d, 0, anyOf(d, 1, 1000)), pick(d, 0, anyOf(d, 1, 40)))
	case 2:
		return spill(day, anyOf(d, all(w.tank), pick(d, 0, 9)))
	case 3, 4:
		grams := all(w.tank)
		return boil(day, grams, pick(d, 0, anyOf(d, 0, grams, grams, grams*9/10)))
	case 5, 6:
		return fill(day, all(w.kettle), number())
	case 7:
		return blend(day, number(), number())
	}
	return ship(day, number())
}

// anyBook returns a book of so many entries, all of which are possible.
func anyBook(d *rand.Rand, n int) []api.BookEntry {
	w := newWorld()
	var l []api.BookEntry
	for len(l) < n {
		if x := anyEntry(d, w); w.happen(x) == api.OK {
			l = append(l, x)
		}
	}
	return l
}

// validBook returns a book of so many entries that is valid, though it can not have happened.
func validBook(d *rand.Rand, n int) []api.BookEntry {
	var l []api.BookEntry
	for range n {
		day, one, other := pick(d, 0, 365), pick(d, 0, anyOf(d, 9, 900, mass)), pick(d, 0, anyOf(d, 9, 900, mass))
		l = append(l, anyOf(d, gather(day, pick(d, 0, 99), one, other), spill(day, one), boil(day, one, other), fill(day, one, other), blend(day, one, other), ship(day, one)))
	}
	return l
}
