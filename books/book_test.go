package books_test

import (
	"fmt"
	"slices"
	"testing"

	"spile/api"
	"spile/books"
)

func TestP12_8Seals(t *testing.T) {
	sameSeals(t, usualBook(), list(921179023978, 497359751172, 675387544197), api.OK)
	sameSeals(t, usualBook()[:2], list(921179023978, 497359751172), api.OK)
	sameSeals(t, nil, nil, api.OK)
	sameSeals(t, book(), nil, api.OK)
	// Six bytes: 0, 4, 0, 0, 0 and 0, from 7 on.
	seal := 7
	for _, b := range list(0, 4, 0, 0, 0, 0) {
		seal = (seal*257 + b + 1) % 999999999989
	}
	sameSeals(t, book(spill(0, 0)), list(seal), api.OK)
}

func TestP12_9WriteBook(t *testing.T) {
	b := octets(2, 2, 6, 0, 168, 15, 40, 54, 171, 2, 6, 148, 15, 208, 15, 0, 0, 151, 41, 4, 8, 2, 60, 0, 0, 181, 150)
	sameWriteBook(t, usualBook(), b, api.OK)
	sameReadBook(t, b, usualBook(), 0, api.OK)
	sameRescue(t, b, usualBook(), 27, api.OK)
	for n, end := range list(0, 9, 19, 27) {
		sameReadBook(t, b[:end], usualBook()[:n], 0, api.OK)
		sameRescue(t, b[:end], usualBook()[:n], end, api.OK)
	}
	sameWriteBook(t, nil, nil, api.OK)
	sameWriteBook(t, book(), nil, api.OK)
	sameReadBook(t, nil, nil, 0, api.OK)
	sameReadBook(t, octets(), nil, 0, api.OK)
	sameRescue(t, nil, nil, 0, api.OK)
	sameRescue(t, octets(), nil, 0, api.OK)
}

// sameBook compares what is written and sealed for a book that is valid, and reads it.
func sameBook(t *testing.T, l []api.BookEntry) {
	t.Helper()
	b, e := writeBookOf(l)
	if e != api.OK {
		t.Fatal("the test is wrong:", l, e)
	}
	sameWriteBook(t, l, b, api.OK)
	sameReadBook(t, b, l, 0, api.OK)
	sameRescue(t, b, l, len(b), api.OK)
	seals, _ := sealsOf(l)
	sameSeals(t, l, seals, api.OK)
}

// notBook compares what is told of a book whose last entry is not valid.
func notBook(t *testing.T, l []api.BookEntry) {
	t.Helper()
	sameWriteBook(t, l, nil, api.ErrArg)
	sameSeals(t, l, nil, api.ErrArg)
	sameReplay(t, l, api.BookState{}, 0, api.ErrArg)
	x := l[len(l)-1]
	for _, n := range list(x.Day, int(x.Kind), x.Item, x.Grams, x.Sap.Water, x.Sap.Sugar) {
		if n < -far || n > far {
			return // it can not be written at all
		}
	}
	right := rawBook(l[:len(l)-1])
	sameReadBook(t, rawBook(l), nil, len(l)-1, api.ErrForm)
	sameRescue(t, rawBook(l), l[:len(l)-1], len(right), api.OK)
}

// TestP12_9Bounds has each kind of entry, with each of its fields at its bound and one step beyond, and with what it does not use.
func TestP12_9Bounds(t *testing.T) {
	fields := map[string]func(x *api.BookEntry) *int{
		"Day": func(x *api.BookEntry) *int { return &x.Day }, "Item": func(x *api.BookEntry) *int { return &x.Item }, "Grams": func(x *api.BookEntry) *int { return &x.Grams },
		"Water": func(x *api.BookEntry) *int { return &x.Sap.Water }, "Sugar": func(x *api.BookEntry) *int { return &x.Sap.Sugar },
	}
	for _, c := range []struct {
		x    api.BookEntry
		most map[string]int
	}{
		{gather(5, 5, 5, 5), map[string]int{"Day": 365, "Item": 99, "Grams": 0, "Water": mass, "Sugar": mass}},
		{spill(5, 5), map[string]int{"Day": 365, "Item": 0, "Grams": mass, "Water": 0, "Sugar": 0}},
		{boil(5, 5, 5), map[string]int{"Day": 365, "Item": mass, "Grams": mass, "Water": 0, "Sugar": 0}},
		{fill(5, 5, 5), map[string]int{"Day": 365, "Item": mass, "Grams": mass, "Water": 0, "Sugar": 0}},
		{blend(5, 5, 5), map[string]int{"Day": 365, "Item": mass, "Grams": mass, "Water": 0, "Sugar": 0}},
		{ship(5, 5), map[string]int{"Day": 365, "Item": mass, "Grams": 0, "Water": 0, "Sugar": 0}},
	} {
		for name, field := range fields {
			most := c.most[name]
			for _, n := range list(0, most, most/2) {
				x := with(c.x, func(x *api.BookEntry) { *field(x) = n })
				sameBook(t, book(x))
				sameBook(t, book(x, x, gather(0, 0, 0, 0), x))
			}
			for _, n := range list(-1, most+1, -far, far, low, high) {
				x := with(c.x, func(x *api.BookEntry) { *field(x) = n })
				notBook(t, book(x))
				notBook(t, book(gather(0, 0, 0, 0), spill(0, 0), x))
			}
		}
		for _, kind := range list(-1, 0, 7, 8, 256+int(c.x.Kind), 1<<32+int(c.x.Kind), -far, far, low, high) {
			notBook(t, book(with(c.x, func(x *api.BookEntry) { x.Kind = api.BookKind(kind) })))
			notBook(t, book(spill(0, 0), api.BookEntry{Kind: api.BookKind(kind)}))
		}
	}
	sameBook(t, book(gather(0, 0, 0, 0), spill(0, 0), boil(0, 0, 0), fill(0, 0, 0), blend(0, 0, 0), ship(0, 0)))
	notBook(t, book(api.BookEntry{}))
}

// TestP12_9Possible shows that a book need not be possible to be written, sealed and read.
func TestP12_9Possible(t *testing.T) {
	sameBook(t, book(gather(5, 1, 1, 1), spill(4, 9), boil(3, 9, 9), fill(2, 9, 1), fill(2, 9, 1), blend(1, 1, 1), blend(0, 7, 8), ship(0, 9), gather(0, 1, mass, mass), gather(0, 1, mass, mass)))
}

// TestP12_9Most has as many entries as there may be, and one more.
func TestP12_9Most(t *testing.T) {
	x := gather(365, 99, mass, mass)
	for _, n := range list(299, 300) {
		sameBook(t, times(n, x))
		sameBook(t, times(n, spill(0, 0)))
		notBook(t, append(times(n-1, x), spill(-1, 0)))
	}
	for _, n := range list(301, 302, 5000) {
		for _, x := range book(x, spill(0, 0), spill(-1, 0)) {
			sameWriteBook(t, times(n, x), nil, api.ErrLong)
			sameSeals(t, times(n, x), nil, api.ErrLong)
		}
	}
	few := rawBook(times(300, spill(0, 0)))
	for _, n := range list(301, 302, 3750) {
		b := rawBook(times(n, spill(0, 0)))
		sameReadBook(t, b, nil, 0, api.ErrLong)
		sameRescue(t, b, times(300, spill(0, 0)), len(few), api.OK)
		// An error of an entry comes first, however many there are before it.
		sameReadBook(t, b[:len(b)-1], nil, n-1, api.ErrEnd)
		sameRescue(t, b[:len(b)-1], times(300, spill(0, 0)), len(few), api.OK)
		wrong := joined(b)
		wrong[len(b)-1] ^= 1
		sameReadBook(t, wrong, nil, n-1, api.ErrSum)
		sameReadBook(t, rawBook(append(times(n-1, spill(0, 0)), spill(-1, 0))), nil, n-1, api.ErrForm)
	}
	most := rawBook(times(3750, spill(0, 0)))
	if len(most) != 30000 {
		t.Fatal("the test is wrong:", len(most))
	}
	sameReadBook(t, append(joined(most), 0), nil, 0, api.ErrLong)
	sameRescue(t, append(joined(most), 0), nil, 0, api.ErrLong)
	for _, n := range list(30001, 1000000) {
		sameReadBook(t, make([]byte, n), nil, 0, api.ErrLong)
		sameRescue(t, make([]byte, n), nil, 0, api.ErrLong)
	}
	sameReadBook(t, make([]byte, 30000), nil, 0, api.ErrSum)
	sameRescue(t, make([]byte, 30000), nil, 0, api.OK)
}

// TestP12_9Sums has sums that are wrong: those of other bytes, without the sum before, or behind another one.
func TestP12_9Sums(t *testing.T) {
	one, two := entryOf(gather(1, 3, 980, 20)), entryOf(boil(1, 1000, 970))
	first := summed(one)
	sum := first[len(first)-2:]
	right := joined(first, two, highFirst(sumOf(joined(two, sum)), 2))
	sameReadBook(t, right, usualBook()[:2], 0, api.OK)
	for _, second := range [][]byte{
		summed(two), joined(two, highFirst(sumOf(joined(sum, two)), 2)), joined(two, highFirst(sumOf(joined(one, sum, two)), 2)), joined(two, highFirst(sumOf(joined(first, two)), 2)), joined(two, highFirst(sumOf(joined(two, octets(0, 0))), 2)), joined(two, highFirst(sumOf(joined(two, octets(int(sum[1]), int(sum[0])))), 2)), joined(two, octets(int(right[len(right)-1]), int(right[len(right)-2]))), joined(two, octets(0, 0)), joined(two, sum),
	} {
		sameReadBook(t, joined(first, second), nil, 1, api.ErrSum)
		sameRescue(t, joined(first, second), usualBook()[:1], len(first), api.OK)
	}
	sameReadBook(t, joined(one, highFirst(sumOf(joined(one, octets(0, 0))), 2)), nil, 0, api.ErrSum)
	sameReadBook(t, joined(one, highFirst(sumOf(joined(one, octets(255, 255))), 2)), nil, 0, api.ErrSum)
	sameReadBook(t, right[len(first):], nil, 0, api.ErrSum)
	// Entries that are exchanged, that are missing, or that are there twice.
	all := rawBook(usualBook())
	for _, b := range [][]byte{joined(all[9:19], all[:9], all[19:]), joined(all[19:], all[9:19], all[:9])} {
		sameReadBook(t, b, nil, 0, api.ErrSum)
		sameRescue(t, b, nil, 0, api.OK)
	}
	for _, b := range [][]byte{joined(all[:9], all[19:], all[9:19]), joined(all[:9], all[19:]), joined(all[:9], all)} {
		sameReadBook(t, b, nil, 1, api.ErrSum)
		sameRescue(t, b, usualBook()[:1], 9, api.OK)
	}
	sameReadBook(t, joined(all[:19], all[9:]), nil, 2, api.ErrSum)
	sameRescue(t, joined(all[:19], all[9:]), usualBook()[:2], 19, api.OK)
}

// TestP12_9End has books that end within a number, and within a sum.
func TestP12_9End(t *testing.T) {
	l := append(usualBook(), gather(300, 99, mass, mass), ship(365, mass))
	b := rawBook(l)
	ends := list(0)
	for n := range l {
		ends = append(ends, len(rawBook(l[:n+1])))
	}
	for end := range b {
		n := 0
		for ends[n+1] <= end {
			n++
		}
		sameRescue(t, b[:end], l[:n], ends[n], api.OK)
		if slices.Contains(ends, end) {
			sameReadBook(t, b[:end], l[:n], 0, api.OK)
		} else {
			sameReadBook(t, b[:end], nil, n, api.ErrEnd)
		}
	}
}

// TestP12_9Numbers has each number of an entry with each error of Get, and with other errors behind it.
func TestP12_9Numbers(t *testing.T) {
	numbers := list(1, 1, 3, 0, 980, 20)
	for before := range 3 {
		l := times(before, spill(0, 7))
		for i := range numbers {
			begin := numbersOf(numbers[:i]...)
			for _, c := range []struct {
				b []byte
				e api.Errno
			}{
				{octets(), api.ErrEnd}, {octets(128), api.ErrEnd}, {times(7, byte(128)), api.ErrEnd}, {times(8, byte(128)), api.ErrForm}, {times(20, byte(255)), api.ErrForm}, {octets(128, 0), api.ErrForm}, {octets(130, 0, 5), api.ErrForm}, {octets(130, 128, 180, 204, 212, 223, 198, 3), api.ErrForm}, {octets(129, 128, 180, 204, 212, 223, 198, 3, 0, 0, 0), api.ErrForm}, {joined(times(8, byte(128)), octets(0)), api.ErrForm},
			} {
				if i == 0 && len(c.b) == 0 {
					continue // no entry begins
				}
				right := rawBook(l)
				b := joined(right, begin, c.b)
				sameReadBook(t, b, nil, before, c.e)
				sameRescue(t, b, l, len(right), api.OK)
				if c.e == api.ErrForm {
					sameReadBook(t, joined(b, octets(128)), nil, before, api.ErrForm)
					sameReadBook(t, joined(b, times(9, byte(0))), nil, before, api.ErrForm)
				}
			}
		}
	}
	// The first number with an error decides; the end comes before the sum, the sum before the form.
	sameReadBook(t, octets(128, 0, 128), nil, 0, api.ErrForm)
	sameReadBook(t, joined(octets(0), times(9, byte(255))), nil, 0, api.ErrForm)
	wrong := entryOf(spill(-1, 0))
	sameReadBook(t, wrong, nil, 0, api.ErrEnd)
	sameReadBook(t, append(wrong, 1), nil, 0, api.ErrEnd)
	sameReadBook(t, append(wrong, 1, 2), nil, 0, api.ErrSum)
	sameReadBook(t, summed(wrong), nil, 0, api.ErrForm)
	// The first entry with an error decides.
	sameReadBook(t, joined(summed(wrong), octets(128)), nil, 0, api.ErrForm)
	sameReadBook(t, joined(rawBook(usualBook()), octets(0, 0)), nil, 3, api.ErrEnd)
}

// TestP12_9Definitions compares any books, valid and not, and bytes that are changed.
func TestP12_9Definitions(t *testing.T) {
	d := dice()
	read := map[api.Errno]int{}
	for range 1500 {
		l := validBook(d, pick(d, 0, anyOf(d, 3, 20)))
		if d.IntN(2) == 0 {
			l = anyBook(d, pick(d, 0, 20))
		}
		sameBook(t, l)
		b, _ := writeBookOf(l)
		for range 4 {
			other := bent(d, b)
			own, at, e := readBookOf(other)
			sameReadBook(t, other, own, at, e)
			read[e]++
			own, bytes, e := rescueOf(other)
			sameRescue(t, other, own, bytes, e)
		}
		var entries [][]byte
		for _, x := range l {
			numbers := list(x.Day, int(x.Kind), x.Item, x.Grams, x.Sap.Water, x.Sap.Sugar)
			if d.IntN(3) == 0 {
				numbers[d.IntN(6)] = anyOf(d, -1, 0, 1, 5, 6, 7, 99, 100, 365, 366, mass, mass+1, anyNumber(d))
			}
			own := numbersOf(numbers...)
			if d.IntN(9) == 0 {
				own[d.IntN(len(own))] = byte(anyOf(d, 0, 1, 127, 128, 255))
			}
			entries = append(entries, own)
		}
		other := chained(entries...)
		own, at, e := readBookOf(other)
		sameReadBook(t, other, own, at, e)
		read[e]++
		own, bytes, e := rescueOf(other)
		sameRescue(t, other, own, bytes, e)
	}
	for _, e := range []api.Errno{api.OK, api.ErrEnd, api.ErrSum, api.ErrForm} {
		if read[e] < 100 {
			t.Error("too few of the error", e, read)
		}
	}
	for size := range 20 {
		for range 300 {
			b := anyBytes(d, size)
			own, at, e := readBookOf(b)
			sameReadBook(t, b, own, at, e)
			own, bytes, e := rescueOf(b)
			sameRescue(t, b, own, bytes, e)
		}
	}
}

// bent returns bytes some of which are others, are missing, or are there twice, or that are cut off.
func bent(d interface{ IntN(n int) int }, b []byte) []byte {
	b = joined(b)
	for range d.IntN(3) {
		if len(b) == 0 {
			break
		}
		at := d.IntN(len(b))
		switch d.IntN(4) {
		case 0:
			b[at] = []byte{0, 1, 127, 128, 255}[d.IntN(5)]
		case 1:
			b[at] ^= 1 << d.IntN(8)
		case 2:
			b = b[:at]
		default:
			b = slices.Insert(b, at, b[at])
		}
	}
	return b
}

// TestP12_9New shows that what is read twice shares no memory.
func TestP12_9New(t *testing.T) {
	b := rawBook(usualBook())
	one, _, _ := books.ReadBook(b)
	other, _, _ := books.Rescue(b)
	for i := range one {
		one[i], other[i] = spill(-7, -7), spill(-7, -7)
	}
	sameReadBook(t, b, usualBook(), 0, api.OK)
	sameRescue(t, b, usualBook(), len(b), api.OK)
	if fmt.Sprint(b) != fmt.Sprint(rawBook(usualBook())) {
		t.Error("the bytes are changed:", b)
	}
}
