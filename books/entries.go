package books

import (
	"iter"
	"slices"

	"spile/api"
)

const (
	entrySize  = 6            // the numbers of an entry
	firstSeal  = 7            // before the first entry
	sealTimes  = 257          // by what a seal is multiplied
	sealModulo = 999999999989 // below what a seal stays
)

// Seals returns the seal after each entry.
func Seals(l []api.BookEntry) ([]int, api.Errno) {
	if e := checkBook(l); e != api.OK {
		return nil, e
	}
	var seals []int
	now := firstSeal
	for _, x := range l {
		for _, b := range bytesOf(x) {
			now = (now*sealTimes + int(b) + 1) % sealModulo
		}
		seals = append(seals, now)
	}
	return seals, api.OK
}

// WriteBook returns the bytes of a book.
func WriteBook(l []api.BookEntry) ([]byte, api.Errno) {
	if e := checkBook(l); e != api.OK {
		return nil, e
	}
	var b, before []byte
	for _, x := range l {
		own := bytesOf(x)
		before = sumBehind(own, before...)
		b = append(append(b, own...), before...)
	}
	return b, api.OK
}

// ReadBook returns the book of bytes.
func ReadBook(b []byte) (l []api.BookEntry, at int, e api.Errno) {
	if len(b) > api.MaxBookBytes {
		return nil, 0, api.ErrLong
	}
	for x, e := range entries(b) {
		if e != api.OK {
			return nil, len(l), e
		}
		l = append(l, x)
	}
	if len(l) > api.MaxEntries {
		return nil, 0, api.ErrLong
	}
	return l, 0, api.OK
}

// Rescue returns the entries before the first damage, and how many bytes they have.
func Rescue(b []byte) (l []api.BookEntry, bytes int, e api.Errno) {
	if len(b) > api.MaxBookBytes {
		return nil, 0, api.ErrLong
	}
	for x, e := range entries(b) {
		if e != api.OK || len(l) == api.MaxEntries {
			break
		}
		l = append(l, x)
		bytes += len(bytesOf(x)) + sumSize
	}
	return l, bytes, api.OK
}

// entries yields the entries of bytes, one after another; the first one with an error is the last one.
func entries(b []byte) iter.Seq2[api.BookEntry, api.Errno] {
	return func(yield func(api.BookEntry, api.Errno) bool) {
		var before []byte
		for len(b) > 0 {
			x, e := readEntry(b, before...)
			if !yield(x, e) || e != api.OK {
				return
			}
			end := len(bytesOf(x))
			before, b = b[end:end+sumSize], b[end+sumSize:]
		}
	}
}

// readEntry returns the entry with which bytes begin, behind one with a sum, or its error.
func readEntry(b []byte, before ...byte) (api.BookEntry, api.Errno) {
	var x api.BookEntry
	fields := entryFields(&x)
	i := 0
	for n, e := range numbers(b, entrySize) {
		if e == api.ErrRange {
			e = api.ErrForm
		}
		if e != api.OK {
			return api.BookEntry{}, e
		}
		*fields[i] = n
		i++
	}
	own := bytesOf(x)
	behind := b[len(own):]
	switch {
	case len(behind) < sumSize:
		return api.BookEntry{}, api.ErrEnd
	case !slices.Equal(sumBehind(own, before...), behind[:sumSize]):
		return api.BookEntry{}, api.ErrSum
	case !validEntry(x):
		return api.BookEntry{}, api.ErrForm
	}
	return x, api.OK
}

// sumBehind returns the sum of the bytes of an entry, which is behind one with a sum.
func sumBehind(own []byte, before ...byte) []byte {
	return sumBytes(slices.Concat(own, before)...)
}

// bytesOf returns the bytes of an entry, and entryFields its numbers in the order in which they are written.
func bytesOf(x api.BookEntry) []byte {
	var b []byte
	for _, field := range entryFields(&x) {
		b = append(b, written(*field)...)
	}
	return b
}

func entryFields(x *api.BookEntry) [entrySize]*int {
	return [entrySize]*int{&x.Day, (*int)(&x.Kind), &x.Item, &x.Grams, &x.Sap.Water, &x.Sap.Sugar}
}

// checkBook returns the error of a book by itself, before anything happens.
func checkBook(l []api.BookEntry) api.Errno {
	if len(l) > api.MaxEntries {
		return api.ErrLong
	}
	if slices.ContainsFunc(l, func(x api.BookEntry) bool { return !validEntry(x) }) {
		return api.ErrArg
	}
	return api.OK
}

// validEntry reports whether an entry is one of a valid book.
func validEntry(x api.BookEntry) bool {
	if !in(0, api.MaxBookDay, x.Day) || !in(0, api.MaxMass, x.Item, x.Grams, x.Sap.Water, x.Sap.Sugar) {
		return false
	}
	empty := x.Sap == api.Sap{}
	switch x.Kind {
	case api.BookGather:
		return x.Item <= api.MaxBookBush && x.Grams == 0
	case api.BookSpill:
		return empty && x.Item == 0
	case api.BookBoil, api.BookFill, api.BookBlend:
		return empty
	case api.BookShip:
		return empty && x.Grams == 0
	}
	return false
}
