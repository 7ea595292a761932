package books_test

import (
	"fmt"
	"slices"
	"testing"

	"spile/api"
	"spile/books"
)

// short returns a text of something, but no long one.
func short(x any) string {
	text := fmt.Sprint(x)
	if len(text) > 600 {
		text = text[:600] + " .."
	}
	return text
}

// samePut and the next ones report what is not told as it must be.
func samePut(t *testing.T, n int, want []byte, e api.Errno) {
	t.Helper()
	if told, f := books.Put(n); !slices.Equal(told, want) || f != e {
		t.Errorf("Put of %d: %v, %d, not %v, %d", n, told, f, want, e)
	}
}

func sameGet(t *testing.T, b []byte, n, used int, e api.Errno) {
	t.Helper()
	if told, bytes, f := books.Get(b); told != n || bytes != used || f != e {
		t.Errorf("Get of %s: %d, %d, %d, not %d, %d, %d", short(b), told, bytes, f, n, used, e)
	}
}

func sameSum(t *testing.T, b []byte, want int) {
	t.Helper()
	if told := books.Sum(b); told != want {
		t.Errorf("Sum of %s: %d, not %d", short(b), told, want)
	}
}

func sameWriteMap(t *testing.T, n api.Net, want []byte, e api.Errno) {
	t.Helper()
	if told, f := books.WriteMap(n); !slices.Equal(told, want) || f != e {
		t.Errorf("WriteMap of %s: %s, %d, not %s, %d", short(n), short(told), f, short(want), e)
	}
}

// sameNet reports whether two ones are the same tubing.
func sameNet(a, b api.Net) bool { return a.Pump == b.Pump && slices.Equal(a.Pipes, b.Pipes) }

func sameReadMap(t *testing.T, b []byte, want api.Net, e api.Errno) {
	t.Helper()
	if told, f := books.ReadMap(b); !sameNet(told, want) || f != e {
		t.Errorf("ReadMap of %s: %s, %d, not %s, %d", short(b), short(told), f, short(want), e)
	}
}

func sameWriteLog(t *testing.T, l []api.LogLine, want []byte, e api.Errno) {
	t.Helper()
	if told, f := books.WriteLog(l); !slices.Equal(told, want) || f != e {
		t.Errorf("WriteLog of %s: %s, %d, not %s, %d", short(l), short(told), f, short(want), e)
	}
}

func sameReadLog(t *testing.T, b []byte, want []api.LogLine, page int, e api.Errno) {
	t.Helper()
	if told, n, f := books.ReadLog(b); !slices.Equal(told, want) || n != page || f != e {
		t.Errorf("ReadLog of %s: %s, %d, %d, not %s, %d, %d", short(b), short(told), n, f, short(want), page, e)
	}
}

func sameSalvage(t *testing.T, b []byte, want []api.LogLine, bad []int, e api.Errno) {
	t.Helper()
	if told, l, f := books.Salvage(b); !slices.Equal(told, want) || !slices.Equal(l, bad) || f != e {
		t.Errorf("Salvage of %s: %s, %s, %d, not %s, %s, %d", short(b), short(told), short(l), f, short(want), short(bad), e)
	}
}

func sameWriteCards(t *testing.T, l []api.Card, want string, e api.Errno) {
	t.Helper()
	if told, f := books.WriteCards(l); told != want || f != e {
		t.Errorf("WriteCards of %s: %s, %d, not %s, %d", short(l), short(told), f, short(want), e)
	}
}

// sameCards reports whether two lists have the same cards.
func sameCards(a, b []api.Card) bool {
	return slices.EqualFunc(a, b, func(a, b api.Card) bool {
		return a.Number == b.Number && a.Mass == b.Mass && a.Brix == b.Brix && slices.Equal(a.From, b.From)
	})
}

func sameReadCards(t *testing.T, s string, want []api.Card, line int, e api.Errno) {
	t.Helper()
	if told, n, f := books.ReadCards(s); !sameCards(told, want) || n != line || f != e {
		t.Errorf("ReadCards of %q: %s, %d, %d, not %s, %d, %d", short(s), short(told), n, f, short(want), line, e)
	}
}

func sameReplay(t *testing.T, l []api.BookEntry, want api.BookState, at int, e api.Errno) {
	t.Helper()
	if told, n, f := books.Replay(l); fmt.Sprint(told) != fmt.Sprint(want) || n != at || f != e {
		t.Errorf("Replay of %s: %s, %d, %d, not %s, %d, %d", short(l), short(told), n, f, short(want), at, e)
	}
}

func sameSeals(t *testing.T, l []api.BookEntry, want []int, e api.Errno) {
	t.Helper()
	if told, f := books.Seals(l); !slices.Equal(told, want) || f != e {
		t.Errorf("Seals of %s: %s, %d, not %s, %d", short(l), short(told), f, short(want), e)
	}
}

func sameWriteBook(t *testing.T, l []api.BookEntry, want []byte, e api.Errno) {
	t.Helper()
	if told, f := books.WriteBook(l); !slices.Equal(told, want) || f != e {
		t.Errorf("WriteBook of %s: %s, %d, not %s, %d", short(l), short(told), f, short(want), e)
	}
}

func sameReadBook(t *testing.T, b []byte, want []api.BookEntry, at int, e api.Errno) {
	t.Helper()
	if told, n, f := books.ReadBook(b); !slices.Equal(told, want) || n != at || f != e {
		t.Errorf("ReadBook of %s: %s, %d, %d, not %s, %d, %d", short(b), short(told), n, f, short(want), at, e)
	}
}

func sameRescue(t *testing.T, b []byte, want []api.BookEntry, bytes int, e api.Errno) {
	t.Helper()
	if told, n, f := books.Rescue(b); !slices.Equal(told, want) || n != bytes || f != e {
		t.Errorf("Rescue of %s: %s, %d, %d, not %s, %d, %d", short(b), short(told), n, f, short(want), bytes, e)
	}
}
