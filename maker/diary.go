package maker

import (
	"spile/api"
	"spile/books"
)

// unsealed is the seal of a book without entries.
const unsealed = 7

// diary is the entries of the season's book.
type diary struct {
	entries []api.BookEntry
}

// entry adds an entry.
func (k *diary) entry() command {
	var x api.BookEntry
	var kind int
	return command{forms{&x.Day, &kind, &x.Item, &x.Grams, &x.Sap}, func() (answer, api.Errno) {
		x.Kind = api.BookKind(kind)
		return add(&k.entries, endless, func(all []api.BookEntry) api.Errno {
			_, _, e := books.Replay(all)
			return e
		}, x)
	}}
}

// state tells what the book comes to, seal its seal, and book its bytes.
func (k *diary) state() command {
	return command{run: func() (answer, api.Errno) {
		s, _, e := books.Replay(k.entries)
		return several{grams(s.Tank), grams(s.Kettle), number(len(s.Barrels))}, e
	}}
}

func (k *diary) seal() command {
	return command{run: func() (answer, api.Errno) {
		seals, e := books.Seals(k.entries)
		if len(seals) == 0 {
			return number(unsealed), e
		}
		return number(seals[len(seals)-1]), e
	}}
}

func (k *diary) book() command {
	return command{run: func() (answer, api.Errno) {
		if len(k.entries) == 0 {
			return nil, api.ErrNone
		}
		return asBytes(books.WriteBook(k.entries))
	}}
}
