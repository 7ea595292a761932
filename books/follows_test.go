package books_test

import (
	"math/rand/v2"
	"slices"
	"strings"
	"testing"

	"spile/api"
	"spile/books"
)

// beginsWith reports whether bytes begin with other ones.
func beginsWith(b, begin []byte) bool {
	return len(b) >= len(begin) && slices.Equal(b[:len(begin)], begin)
}

// TestP12_10Numbers shows that numbers are read as they were, in as many bytes, and that no two begin the same bytes.
func TestP12_10Numbers(t *testing.T) {
	d := dice()
	numbers := list(far, far-1, -far, -far+1)
	for n := -300; n <= 300; n++ {
		numbers = append(numbers, n, 64*n, 8192*n, 8192*n-1, anyNumber(d))
	}
	slices.Sort(numbers)
	numbers = slices.Compact(numbers)
	var all [][]byte
	for _, n := range numbers {
		b, e := books.Put(n)
		if e != api.OK {
			t.Fatal("Put of", n, e)
		}
		sameGet(t, joined(b, anyBytes(d, 3)), n, len(b), api.OK)
		all = append(all, b)
	}
	for i, one := range all {
		for j, other := range all {
			if i != j && beginsWith(one, other) {
				t.Fatal("two numbers begin the same bytes:", numbers[i], numbers[j], one, other)
			}
		}
	}
	// What is read is written again.
	for range 20000 {
		b := anyBytes(d, pick(d, 1, 9))
		n, used, e := books.Get(b)
		if e != api.OK {
			continue
		}
		if again, f := books.Put(n); !slices.Equal(again, b[:used]) || f != api.OK {
			t.Fatal("not written as it was:", b, n, used, again, f)
		}
	}
}

// TestP12_10Read reads bytes that are changed: what is read without an error is written again, byte for byte.
func TestP12_10Read(t *testing.T) {
	d := dice()
	seen := map[string]int{}
	for range 4000 {
		n := anyNet(d, pick(d, 1, 4))
		b := rawMap(n)
		b[d.IntN(len(b))] = byte(d.IntN(256))
		b = summed(b[:len(b)-2])
		if n, e := books.ReadMap(b); e == api.OK {
			seen["map"]++
			sameWriteMap(t, n, b, api.OK)
		}
		b, _ = writeLogOf(anyLog(d, pick(d, 1, 30)))
		b = spoiled(d, b)
		if l, _, e := books.ReadLog(b); e == api.OK {
			seen["log"]++
			sameWriteLog(t, l, b, api.OK)
		}
		text, _ := writeCardsOf(anyCards(d, pick(d, 1, 3)))
		text = garbled(d, text)
		if l, _, e := books.ReadCards(text); e == api.OK {
			seen["cards"]++
			sameWriteCards(t, l, text, api.OK)
		}
		b = rawBook(validBook(d, pick(d, 1, 3)))
		b[d.IntN(len(b))] = byte(d.IntN(256))
		if l, _, e := books.ReadBook(b); e == api.OK {
			seen["book"]++
			sameWriteBook(t, l, b, api.OK)
		}
		own := entryOf(validBook(d, 1)[0])
		own[d.IntN(len(own))] = byte(d.IntN(256))
		if l, _, e := books.ReadBook(summed(own)); e == api.OK {
			seen["entry"]++
			sameWriteBook(t, l, summed(own), api.OK)
		}
	}
	for _, what := range []string{"map", "log", "cards", "entry"} {
		if seen[what] < 400 {
			t.Error("too few are read:", what, seen)
		}
	}
}

// TestP12_10Written reads again what is written.
func TestP12_10Written(t *testing.T) {
	d := dice()
	for range 1000 {
		n := anyNet(d, pick(d, 1, 60))
		b, _ := books.WriteMap(n)
		sameReadMap(t, b, n, api.OK)
		l := anyLog(d, pick(d, 0, 100))
		b, _ = books.WriteLog(l)
		sameReadLog(t, b, l, 0, api.OK)
		sameSalvage(t, b, l, nil, api.OK)
		c := anyCards(d, pick(d, 0, 10))
		text, _ := books.WriteCards(c)
		sameReadCards(t, text, c, 0, api.OK)
		x := validBook(d, pick(d, 0, 20))
		b, _ = books.WriteBook(x)
		sameReadBook(t, b, x, 0, api.OK)
		sameRescue(t, b, x, len(b), api.OK)
	}
}

// TestP12_11Maps changes up to 16 neighbouring bits of maps.
func TestP12_11Maps(t *testing.T) {
	d := dice()
	for _, n := range []api.Net{net(8000), bush(), anyNet(d, 20)} {
		b, _ := books.WriteMap(n)
		for bit := range 8 * len(b) {
			for _, burst := range bursts(d) {
				other := changed(b, bit, burst)
				if told, e := books.ReadMap(other); e == api.OK || len(told.Pipes) > 0 {
					t.Fatal("the damage is not found:", b, other, told, e)
				}
			}
		}
	}
}

// TestP12_11Pages changes up to 16 neighbouring bits of one page: Salvage returns the lines of all others.
func TestP12_11Pages(t *testing.T) {
	d := dice()
	l := apart(40, 5)
	b, _ := books.WriteLog(l)
	whole := [][]api.LogLine{l[:14], l[14:28], l[28:]}
	for page := range 3 {
		want := slices.Concat(slices.Delete(slices.Clone(whole), page, page+1)...)
		for bit := range 8 * 64 {
			for _, burst := range bursts(d) {
				other := joined(b)
				copy(other[64*page:], changed(pageAt(b, page), bit, burst))
				if _, n, e := books.ReadLog(other); n != page || e == api.OK {
					t.Fatal("the damage is not found:", page, bit, burst, n, e)
				}
				if told, bad, e := books.Salvage(other); !slices.Equal(told, want) || !slices.Equal(bad, list(page)) || e != api.OK {
					t.Fatal("not the lines of all other pages:", page, bit, burst, told, bad, e)
				}
			}
		}
	}
}

// TestP12_11Exchanged exchanges two pages: they are not sound, even if they have the same lines.
func TestP12_11Exchanged(t *testing.T) {
	d := dice()
	var own [][]api.LogLine
	for range 60 {
		own = append(own, apart(14, 1))
	}
	same := pagesFrom(own...)
	l := anyLog(d, 400)
	different, _ := books.WriteLog(l)
	for _, b := range [][]byte{same, different} {
		pages := len(b) / 64
		for range 300 {
			one, other := d.IntN(pages), d.IntN(pages)
			if one == other {
				continue
			}
			bad := joined(b)
			copy(bad[64*one:], pageAt(b, other))
			copy(bad[64*other:], pageAt(b, one))
			if _, told, e := books.Salvage(bad); !slices.Equal(told, list(min(one, other), max(one, other))) || e != api.OK {
				t.Fatal("pages that are exchanged are sound:", one, other, told, e)
			}
			if _, page, e := books.ReadLog(bad); &b[0] == &different[0] && (page != min(one, other) || e != api.ErrSum) {
				t.Fatal("pages that are exchanged are read:", one, other, page, e)
			}
		}
	}
}

// TestP12_11Books cuts books off, and changes them, behind the bytes of some entries.
func TestP12_11Books(t *testing.T) {
	d := dice()
	for range 2000 {
		l := validBook(d, pick(d, 1, 12))
		n := d.IntN(len(l) + 1)
		right, _ := books.WriteBook(l[:n])
		b, _ := books.WriteBook(l)
		other := joined(right, bent(d, b[len(right):]), anyBytes(d, d.IntN(4)))
		told, bytes, e := books.Rescue(other)
		if len(told) < n || !slices.Equal(told[:n], l[:n]) || bytes < len(right) || e != api.OK {
			t.Fatal("not at least the entries before:", l, n, other, told, bytes, e)
		}
		again, _ := books.WriteBook(told)
		if !beginsWith(other, again) || len(again) != bytes {
			t.Fatal("not the bytes of the entries:", other, told, bytes, again)
		}
	}
}

// allOf returns all sap of a state, with the steam as water.
func allOf(s api.BookState) api.Sap {
	all := sap(s.Steam, 0)
	for _, x := range []api.Sap{s.Tank, s.Kettle, s.Spilt, s.Shipped} {
		all = plus(all, x)
	}
	for _, b := range s.Barrels {
		all = plus(all, b.Sap)
	}
	return all
}

// greatBook returns a book of so many entries with great numbers, all of which are possible.
func greatBook(d *rand.Rand, n int) []api.BookEntry {
	w := newWorld()
	var l []api.BookEntry
	for len(l) < n {
		x := anyEntry(d, w)
		if x.Kind == api.BookGather {
			x.Sap = sap(pick(d, 0, mass/40), pick(d, 0, mass/40))
		}
		if w.happen(x) == api.OK {
			l = append(l, x)
		}
	}
	return l
}

// TestP12_12EachGram shows that each gram is somewhere, behind each entry.
func TestP12_12EachGram(t *testing.T) {
	d := dice()
	full := 0
	for i := range 600 {
		l := anyBook(d, pick(d, 1, 60))
		if i%2 == 0 {
			l = greatBook(d, pick(d, 1, 60))
		}
		var before api.BookState
		gathered := map[int]bool{}
		for n, x := range l {
			s, _, e := books.Replay(l[:n+1])
			if e != api.OK || allOf(s) != s.Gathered {
				t.Fatal("a gram is lost:", l[:n+1], s, e)
			}
			for _, pair := range [][2]int{{before.Gathered.Water, s.Gathered.Water}, {before.Gathered.Sugar, s.Gathered.Sugar}, {before.Spilt.Water, s.Spilt.Water}, {before.Spilt.Sugar, s.Spilt.Sugar}, {before.Shipped.Water, s.Shipped.Water}, {before.Shipped.Sugar, s.Shipped.Sugar}, {before.Steam, s.Steam}} {
				if pair[0] > pair[1] {
					t.Fatal("a beginning has more:", l[:n+1], before, s)
				}
			}
			// What stands in barrels, and what is shipped, which stood there before, comes from bushes that were gathered before.
			for _, b := range s.Barrels {
				if b.Sap != sap(0, 0) && len(b.From) == 0 || b.Sap == sap(0, 0) && len(b.From) > 0 || slices.ContainsFunc(b.From, func(bush int) bool { return !gathered[bush] }) {
					t.Fatal("a barrel comes from other bushes:", l[:n+1], s)
				}
				full += len(b.From)
			}
			gathered[x.Item] = gathered[x.Item] || x.Kind == api.BookGather && x.Sap != sap(0, 0)
			before = s
		}
	}
	if full < 10000 {
		t.Error("too few barrels:", full)
	}
}

// TestP12_13Seals shows that the seals of a beginning are the beginning of the seals, and that books that begin alike have the same ones just so far.
func TestP12_13Seals(t *testing.T) {
	d := dice()
	for range 2000 {
		l := validBook(d, pick(d, 1, 20))
		seals, e := books.Seals(l)
		if len(seals) != len(l) || e != api.OK {
			t.Fatal("Seals of", l, seals, e)
		}
		for n := range l {
			sameSeals(t, l[:n], seals[:n], api.OK)
		}
		n := d.IntN(len(l))
		other := append(joined(l[:n]), validBook(d, pick(d, 1, 5))...)
		told, e := books.Seals(other)
		if e != api.OK || !slices.Equal(told[:n], seals[:n]) || len(told) != len(other) {
			t.Fatal("books that begin alike:", l, other, seals, told, e)
		}
		if other[n] != l[n] && told[n] == seals[n] {
			t.Fatal("another entry has the same seal:", l, other, seals, told)
		}
	}
}

// TestP12_10Text shows that cards have their lines one behind another.
func TestP12_10Text(t *testing.T) {
	d := dice()
	for range 200 {
		l := anyCards(d, pick(d, 1, 9))
		text, e := books.WriteCards(l)
		if e != api.OK {
			t.Fatal("WriteCards of", l, e)
		}
		n := 0
		for line := range strings.Lines(text) {
			sameWriteCards(t, l[n:n+1], line, api.OK)
			n++
		}
		if n != len(l) {
			t.Error("not as many lines as cards:", text)
		}
	}
}
