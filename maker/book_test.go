package maker_test

import (
	"fmt"
	"testing"

	"spile/api"
	"spile/books"
	"spile/maker"
)

// TestP13_1Book shows entries, what they come to, their seal and their bytes.
func TestP13_1Book(t *testing.T) {
	seal := func(b ...int) int {
		n := 7
		for _, x := range b {
			n = (n*257 + x + 1) % 999999999989
		}
		return n
	}
	// The bytes of the entries of the chapter's example; a number below 64 is written as two times itself.
	one := []int{2, 2, 6, 0, 168, 15, 40}
	two := []int{2, 6, 148, 15, 208, 15, 0, 0}
	three := []int{4, 8, 2, 60, 0, 0}
	m := maker.New()
	told(t, m, `
		state => 0+0 0+0 0
		seal => 7
		book => ErrNone
		entry 1 0 3 0 980+20 => ErrArg
		entry 1 7 3 0 980+20 => ErrArg
		entry 366 1 3 0 980+20 => ErrArg
		entry -1 1 3 0 980+20 => ErrArg
		entry 1 1 100 0 980+20 => ErrArg
		entry 1 1 3 1 980+20 => ErrArg
		entry 1 1 3 0 -980+20 => ErrArg
		entry 1 2 0 1 0+0 => ErrRange
		entry 1 6 1 0 0+0 => ErrNone
		seal => 7
		book => ErrNone
		entry 1 1 3 0 980+20 => 1
		state => 980+20 0+0 0
	`)
	told(t, m, fmt.Sprint("seal => ", seal(one...)))
	told(t, m, `
		entry 0 1 3 0 980+20 => ErrState
		entry 1 3 981 1000 0+0 => ErrState
		entry 1 3 970 1001 0+0 => ErrRange
		entry 1 1 3 0 999999999999+1 => ErrOver
		entry 1 3 970 1000 0+0 => 2
		state => 0+0 10+20 0
		entry 2 4 1 30 0+0 => 3
		state => 0+0 0+0 1
		entry 2 4 1 0 0+0 => ErrTwice
		entry 2 4 2 0 0+0 => 4
		state => 0+0 0+0 2
	`)
	m = after(t, bookLines()...)
	told(t, m, fmt.Sprint("seal => ", seal(append(append(one, two...), three...)...)))
	sums := func(b []int, before string) string {
		var all []byte
		for _, x := range b {
			all = append(all, byte(x))
		}
		return fmt.Sprintf("%x%04x", all, books.Sum(append(all, word(before).bytes()...)))
	}
	a := sums(one, "")
	b := sums(two, a[len(a)-4:])
	c := sums(three, b[len(b)-4:])
	told(t, m, "book => "+a+b+c)
}

// TestP13_1Entries shows that a book has at most 300 entries, and that one that is refused leaves it as it was.
func TestP13_1Entries(t *testing.T) {
	m := maker.New()
	var all []api.BookEntry
	for i := range 300 {
		told(t, m, fmt.Sprintf("entry %d 1 %d 0 3+2 => %d", i, i%100, i+1))
		all = append(all, api.BookEntry{Day: i, Kind: api.BookGather, Item: i % 100, Sap: api.Sap{Water: 3, Sugar: 2}})
	}
	for _, s := range []string{"entry 300 1 0 0 3+2 => ErrLong", "entry 0 7 0 0 3+2 => ErrLong", "entry 0 1 0 0 x => ErrForm"} {
		told(t, m, s+"\nstate => 900+600 0+0 0")
	}
	seals, _ := books.Seals(all)
	bytes, _ := books.WriteBook(all)
	told(t, m, fmt.Sprintf("seal => %d\nbook => %x", seals[299], bytes))
}
