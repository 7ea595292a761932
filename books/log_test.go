package books_test

import (
	"slices"
	"testing"

	"spile/api"
	"spile/books"
)

func TestP12_4Example(t *testing.T) {
	first := joined(octets(2, 0, 0, 0, 5, 0, 3, 27, 88, 0, 4, 27, 188), make([]byte, 49), octets(105, 153))
	second := joined(octets(1, 0, 0, 1, 44, 0, 3, 26, 244), make([]byte, 53), octets(69, 220))
	sameWriteLog(t, usualLog(), joined(first, second), api.OK)
	sameReadLog(t, joined(first, second), usualLog(), 0, api.OK)
	sameSalvage(t, joined(first, second), usualLog(), nil, api.OK)
}

func TestP12_4NoLine(t *testing.T) {
	for _, l := range [][]api.LogLine{nil, lines()} {
		sameWriteLog(t, l, nil, api.OK)
	}
	for _, b := range [][]byte{nil, octets()} {
		sameReadLog(t, b, nil, 0, api.OK)
		sameSalvage(t, b, nil, nil, api.OK)
	}
}

// sameLog compares what is written for a log with so many pages, and reads it.
func sameLog(t *testing.T, l []api.LogLine, pages int) {
	t.Helper()
	b, e := writeLogOf(l)
	if len(b) != 64*pages || e != api.OK {
		t.Fatal("the test is wrong:", l, len(b), e)
	}
	sameWriteLog(t, l, b, api.OK)
	sameReadLog(t, b, l, 0, api.OK)
	sameSalvage(t, b, l, nil, api.OK)
}

// TestP12_4Pages has logs that end a page, and that just do not.
func TestP12_4Pages(t *testing.T) {
	for n := 1; n <= 43; n++ {
		sameLog(t, apart(n, 1), (n+13)/14)
		sameLog(t, apart(n, 255), (n+13)/14)
		sameLog(t, apart(n, 256), n)
	}
	for _, c := range []struct {
		l     []api.LogLine
		pages int
	}{
		{lines(at(0, 0, 0)), 1}, {lines(at(1000000000, 59, 10000)), 1}, {lines(at(0, 0, 0), at(1000000000, 0, 0)), 2}, {lines(at(999999999, 59, 0), at(1000000000, 0, 0)), 1},
		{lines(at(5, 0, 1), at(5, 1, 1), at(5, 59, 1)), 1}, {lines(at(5, 59, 1), at(6, 0, 1)), 1}, {lines(at(5, 59, 1), at(260, 0, 1)), 1}, {lines(at(5, 59, 1), at(261, 0, 1)), 2}, {lines(at(5, 0, 1), at(5, 1, 1), at(260, 0, 1), at(515, 0, 1), at(771, 0, 1)), 2},
		{later(apart(14, 0), 77), 1}, {later(apart(15, 0), 77), 2}, {apart(60, 0), 5}, {joined(apart(14, 0), lines(at(300, 0, 0))), 2}, {joined(apart(13, 0), lines(at(255, 0, 0), at(255, 1, 0))), 2}, {joined(apart(13, 0), lines(at(256, 0, 0))), 2}, {joined(apart(13, 0), later(apart(14, 0), 256)), 2},
	} {
		sameLog(t, c.l, c.pages)
	}
}

// TestP12_4Most has as many lines as there may be, and one more.
func TestP12_4Most(t *testing.T) {
	sameLog(t, apart(1999, 7), 143)
	sameLog(t, apart(2000, 7), 143)
	sameLog(t, apart(2000, 256), 2000)
	sameWriteLog(t, apart(2001, 7), nil, api.ErrLong)
	sameWriteLog(t, apart(2001, 256), nil, api.ErrLong)
	sameWriteLog(t, make([]api.LogLine, 2001), nil, api.ErrLong)
	sameWriteLog(t, make([]api.LogLine, 2000), nil, api.ErrArg)
	sameWriteLog(t, append(apart(1999, 7), at(-1, 0, 0)), nil, api.ErrArg)
}

// TestP12_4Bounds has each field of a line at its bounds, and one step beyond them.
func TestP12_4Bounds(t *testing.T) {
	for _, c := range []struct {
		what string
		most int
		line func(n int) api.LogLine
	}{
		{"Minute", 1000000000, func(n int) api.LogLine { return at(n, 5, 5) }},
		{"Node", 59, func(n int) api.LogLine { return at(5, n, 5) }},
		{"Value", 10000, func(n int) api.LogLine { return at(5, 5, n) }},
	} {
		for _, n := range list(0, 1, c.most-1, c.most) {
			sameLog(t, lines(c.line(n)), 1)
		}
		for _, n := range list(-1, c.most+1, c.most+255, 256*c.most, 65536, 1<<32, low, high) {
			if n > c.most || n < 0 {
				sameWriteLog(t, lines(c.line(n)), nil, api.ErrArg)
				sameWriteLog(t, lines(at(0, 0, 0), c.line(n)), nil, api.ErrArg)
			}
		}
	}
}

// TestP12_4Order has lines of the same minute in order of Node, the same Node twice, and out of order.
func TestP12_4Order(t *testing.T) {
	for _, l := range [][]api.LogLine{
		lines(at(5, 3, 1), at(5, 3, 1)), lines(at(5, 3, 1), at(5, 3, 2)), lines(at(5, 3, 1), at(5, 2, 1)), lines(at(5, 3, 1), at(4, 3, 1)), lines(at(5, 3, 1), at(4, 4, 1)), lines(at(5, 3, 1), at(6, 3, 1), at(6, 3, 1)), lines(at(5, 3, 1), at(600, 3, 1), at(5, 4, 1)), lines(at(1, 1, 1), at(0, 59, 1)), append(apart(14, 1), at(13, 13, 0)), append(apart(14, 1), at(13, 12, 0)), append(apart(14, 1), at(12, 59, 0)),
	} {
		sameWriteLog(t, l, nil, api.ErrArg)
	}
}

// badPage returns a page of a log with a right sum, of which some bytes are others.
func badPage(number int, l []api.LogLine, bytes map[int]int) []byte {
	b := rawPage(number, l)
	for at, x := range bytes {
		b[at] = byte(x)
	}
	return pageSummed(number, b)
}

// unsound are pages with a number whose sum is right, but which have not the form of a page.
func unsound(number int) [][]byte {
	two := lines(at(5, 3, 7000), at(6, 4, 7100))
	full := apart(14, 3)
	l := [][]byte{
		pageSummed(number, make([]byte, 62)),
		badPage(number, two, map[int]int{0: 0}), badPage(number, two, map[int]int{0: 1}), badPage(number, two, map[int]int{0: 3}), badPage(number, two, map[int]int{0: 4}), badPage(number, two, map[int]int{0: 15}), badPage(number, two, map[int]int{0: 255}), badPage(number, full, map[int]int{0: 13}), badPage(number, full, map[int]int{0: 15}), badPage(number, full, map[int]int{0: 16}), badPage(number, full, map[int]int{0: 255}), badPage(number, full, map[int]int{0: 128 + 14}),
		badPage(number, two, map[int]int{5: 1}), badPage(number, two, map[int]int{5: 255}), badPage(number, two, map[int]int{6: 60}), badPage(number, two, map[int]int{6: 255}), badPage(number, two, map[int]int{10: 60}), badPage(number, two, map[int]int{10: 128 + 4}),
		rawPage(number, lines(at(5, 3, 10001))), rawPage(number, lines(at(5, 3, 65535))), rawPage(number, lines(at(5, 3, 1), at(6, 3, 10001))), rawPage(number, lines(at(1000000001, 3, 1))), rawPage(number, lines(at(1<<32-1, 3, 1))), rawPage(number, lines(at(1000000000, 3, 1), at(1000000001, 3, 1))), rawPage(number, lines(at(999999800, 3, 1), at(1000000055, 3, 1))), rawPage(number, lines(at(1<<32-1, 3, 1), at(1<<32, 3, 1))),
		rawPage(number, lines(at(5, 3, 1), at(5, 3, 1))), rawPage(number, lines(at(5, 3, 1), at(5, 3, 2))), rawPage(number, lines(at(5, 3, 1), at(5, 2, 1))), rawPage(number, lines(at(5, 3, 1), at(6, 3, 1), at(6, 0, 1))), rawPage(number, append(apart(13, 3), apart(13, 3)[12])),
		badPage(number, full, map[int]int{61: 1}), badPage(number, full, map[int]int{61: 255}),
	}
	for behind := 13; behind < 62; behind++ {
		l = append(l, badPage(number, two, map[int]int{behind: 1}), badPage(number, two, map[int]int{behind: 128}))
	}
	return l
}

// TestP12_4Form has pages that are those of no lines, at first and behind others.
func TestP12_4Form(t *testing.T) {
	first := lines(at(0, 0, 0))
	for number := range 2 {
		before, sound := rawPage(0, first)[:64*number], first[:number]
		for _, b := range unsound(number) {
			sameReadLog(t, joined(before, b), nil, number, api.ErrForm)
			sameSalvage(t, joined(before, b), sound, list(number), api.OK)
			// What comes behind it does not matter.
			sameReadLog(t, joined(before, b, anyBytes(dice(), 70)), nil, number, api.ErrForm)
		}
	}
}

// TestP12_4Follow has pages that are sound, but which do not follow the page before.
func TestP12_4Follow(t *testing.T) {
	one, full := lines(at(500, 3, 7)), later(apart(14, 1), 500)
	last := full[13] // in the minute 513 at the node 13
	for _, c := range []struct {
		before, l []api.LogLine
		e         api.Errno
	}{
		{one, lines(at(756, 3, 7)), api.OK}, {one, lines(at(756, 0, 7)), api.OK}, {one, lines(at(755, 3, 7)), api.ErrForm}, {one, lines(at(755, 59, 7)), api.ErrForm}, {one, lines(at(501, 3, 7)), api.ErrForm}, {one, lines(at(500, 4, 7)), api.ErrForm}, {one, lines(at(500, 3, 7)), api.ErrForm}, {one, lines(at(499, 3, 7)), api.ErrForm}, {one, lines(at(0, 3, 7)), api.ErrForm}, {one, lines(at(1000000000, 3, 7)), api.OK}, {one, later(full, 256), api.OK}, {one, later(full, 255), api.ErrForm},
		{full[:13], lines(at(767, 0, 7)), api.ErrForm}, {full[:13], lines(at(768, 0, 7)), api.OK}, {full[:13], full[13:], api.ErrForm}, {full[:13], lines(at(512, 12, 7)), api.ErrForm}, {full[:13], lines(at(500, 12, 7)), api.ErrForm},
		{full, lines(at(513, 14, 7)), api.OK}, {full, lines(at(513, 59, 7)), api.OK}, {full, lines(at(514, 0, 7)), api.OK}, {full, lines(at(769, 0, 7)), api.OK}, {full, lines(last), api.ErrForm}, {full, lines(at(513, 12, 7)), api.ErrForm}, {full, lines(at(512, 59, 7)), api.ErrForm}, {full, lines(at(0, 14, 7)), api.ErrForm}, {full, full, api.ErrForm}, {full, later(full, 14), api.OK}, {full, later(full, 13), api.ErrForm},
	} {
		b := joined(rawPage(0, c.before), rawPage(1, c.l))
		if c.e == api.OK {
			sameReadLog(t, b, joined(c.before, c.l), 0, api.OK)
		} else {
			sameReadLog(t, b, nil, 1, c.e)
		}
		sameSalvage(t, b, joined(c.before, c.l), nil, api.OK)
		// It is the page before that it has to follow, not any other one.
		early := rawPage(0, lines(at(100, 0, 0)))
		b = joined(early, rawPage(1, c.before), rawPage(2, c.l))
		if c.e == api.OK {
			sameReadLog(t, b, joined(lines(at(100, 0, 0)), c.before, c.l), 0, api.OK)
		} else {
			sameReadLog(t, b, nil, 2, c.e)
		}
	}
}

// TestP12_4Errors has pages that are too short, with wrong sums, and several errors at once: the one named first is returned.
func TestP12_4Errors(t *testing.T) {
	l := apart(40, 5)
	right, _ := writeLogOf(l)
	for end := range right {
		want := api.ErrEnd
		if end%64 == 0 {
			sameReadLog(t, right[:end], l[:14*(end/64)], 0, api.OK)
		} else {
			sameReadLog(t, right[:end], nil, end/64, want)
		}
	}
	for at := range right {
		b := joined(right)
		b[at] ^= 16
		sameReadLog(t, b, nil, at/64, api.ErrSum)
		if at%64 > 0 {
			sameReadLog(t, b[:at], nil, at/64, api.ErrEnd)
		}
		// The first page with an error decides.
		if at < 128 {
			b[130] ^= 1
			sameReadLog(t, b, nil, at/64, api.ErrSum)
			sameReadLog(t, b[:150], nil, at/64, api.ErrSum)
		}
	}
	for a := range 3 {
		for c := range a {
			b := joined(right)
			copy(b[64*a:64*a+64], right[64*c:])
			copy(b[64*c:64*c+64], right[64*a:])
			sameReadLog(t, b, nil, c, api.ErrSum)
		}
	}
	// The sum is looked at before the form, the form before what comes next.
	for _, b := range unsound(0) {
		b[63] ^= 1
		sameReadLog(t, b, nil, 0, api.ErrSum)
		sameReadLog(t, b[:63], nil, 0, api.ErrEnd)
	}
	sameReadLog(t, make([]byte, 64), nil, 0, api.ErrSum)
	sameReadLog(t, joined(right, make([]byte, 64)), nil, 3, api.ErrSum)
	sameReadLog(t, joined(right, make([]byte, 1)), nil, 3, api.ErrEnd)
}

// pagesFrom returns the bytes of pages of lines.
func pagesFrom(l ...[]api.LogLine) []byte {
	var b []byte
	for number, own := range l {
		b = append(b, rawPage(number, own)...)
	}
	return b
}

// TestP12_4TooLong has bytes of too many lines, and too many bytes.
func TestP12_4TooLong(t *testing.T) {
	var pages [][]api.LogLine
	for n := range 2000 {
		pages = append(pages, later(apart(14, 1), 14*n))
	}
	most := pagesFrom(append(pages[:142:142], later(apart(12, 1), 14*142))...)
	if l, _, e := books.ReadLog(most); len(l) != 2000 || e != api.OK {
		t.Error("ReadLog of 2000 lines:", len(l), e)
	}
	sameReadLog(t, pagesFrom(append(pages[:142:142], later(apart(13, 1), 14*142))...), nil, 0, api.ErrLong)
	sameReadLog(t, pagesFrom(pages[:143]...), nil, 0, api.ErrLong)
	all := pagesFrom(pages...)
	sameReadLog(t, all, nil, 0, api.ErrLong)
	sameReadLog(t, all[:127999], nil, 1999, api.ErrEnd)
	wrong := joined(all)
	wrong[127999] ^= 1
	sameReadLog(t, wrong, nil, 1999, api.ErrSum)
	sameReadLog(t, joined(all[:64*1999], badPage(1999, pages[1999], map[int]int{61: 1})), nil, 1999, api.ErrForm)
	sameReadLog(t, joined(all[:64*1999], rawPage(1999, pages[0])), nil, 1999, api.ErrForm)
	sameReadLog(t, append(all, 0), nil, 0, api.ErrLong)
	sameReadLog(t, make([]byte, 128001), nil, 0, api.ErrLong)
	sameReadLog(t, make([]byte, 1000000), nil, 0, api.ErrLong)
	sameReadLog(t, make([]byte, 128000), nil, 0, api.ErrSum)
	// Salvage returns all lines, however many there are.
	sameSalvage(t, all, slices.Concat(pages...), nil, api.OK)
	sameSalvage(t, wrong, slices.Concat(pages[:1999]...), list(1999), api.OK)
	sameSalvage(t, append(all, 0), nil, nil, api.ErrLong)
	sameSalvage(t, make([]byte, 128001), nil, nil, api.ErrLong)
	if l, bad, e := books.Salvage(make([]byte, 128000)); len(l) != 0 || len(bad) != 2000 || e != api.OK {
		t.Error("Salvage of zeros:", len(l), len(bad), e)
	}
}

// TestP12_4Definitions compares any logs, valid and not, and bytes of pages that are changed.
func TestP12_4Definitions(t *testing.T) {
	d := dice()
	wrote, read := map[api.Errno]int{}, map[api.Errno]int{}
	for range 1500 {
		l := anyLog(d, pick(d, 0, anyOf(d, 5, 16, 60)))
		b, e := writeLogOf(l)
		if e != api.OK {
			t.Fatal("not a log:", l)
		}
		sameLog(t, l, len(b)/64)
		for range 3 {
			other := spoiled(d, b)
			own, page, e := readLogOf(other)
			sameReadLog(t, other, own, page, e)
			read[e]++
			own, bad, e := salvageOf(other)
			sameSalvage(t, other, own, bad, e)
		}
		for range d.IntN(3) {
			if len(l) > 0 {
				x := &l[d.IntN(len(l))]
				*anyOf(d, &x.Minute, &x.Node, &x.Value) = anyOf(d, -1, 0, 5, 59, 60, 10000, 10001, 1000000000, 1000000001, pick(d, 0, 10000))
			}
		}
		b, e = writeLogOf(l)
		sameWriteLog(t, l, b, e)
		wrote[e]++
	}
	for _, e := range []api.Errno{api.OK, api.ErrEnd, api.ErrSum, api.ErrForm} {
		if read[e] < 100 || wrote[api.OK] < 100 || wrote[api.ErrArg] < 100 {
			t.Error("too few of the error", e, read, wrote)
		}
	}
}

// spoiled returns bytes of pages that are changed, cut off, or in another order; most of the sums are right.
func spoiled(d interface {
	IntN(n int) int
	Perm(n int) []int
}, b []byte) []byte {
	b = joined(b)
	pages := len(b) / 64
	for range d.IntN(3) {
		if len(b) == 0 {
			break
		}
		at := d.IntN(len(b))
		b[at] = []byte{0, 1, 14, 15, 60, 255, byte(d.IntN(256))}[d.IntN(7)]
		if n := at / 64; d.IntN(3) > 0 && 64*n+64 <= len(b) {
			copy(b[64*n:], pageSummed(n, pageAt(b, n)))
		}
	}
	if d.IntN(4) == 0 && pages > 1 {
		var other []byte
		for number, n := range d.Perm(pages) {
			other = append(other, pageSummed(number, pageAt(b, n))...)
		}
		b = other
	}
	if d.IntN(5) == 0 {
		b = b[:len(b)-d.IntN(len(b)+1)]
	}
	return b
}

// TestP12_5Salvage has pages some of which are sound, in any order of their minutes.
func TestP12_5Salvage(t *testing.T) {
	one, full := lines(at(500, 3, 7)), later(apart(14, 1), 500)
	sameSalvage(t, pagesFrom(one, one, full, one), joined(one, one, full, one), nil, api.OK)
	sameSalvage(t, pagesFrom(full, one), joined(full, one), nil, api.OK)
	sameSalvage(t, joined(rawPage(1, one), rawPage(0, full)), nil, list(0, 1), api.OK)
	sameSalvage(t, joined(rawPage(0, one), rawPage(2, full), rawPage(1, one), rawPage(3, full)), joined(one, full), list(1, 2), api.OK)
	sameSalvage(t, joined(rawPage(1, one), rawPage(1, full)), full, list(0), api.OK)
	sameSalvage(t, joined(make([]byte, 64), rawPage(1, full)), full, list(0), api.OK)
	// Beginnings of a page, at first and behind others.
	for end := 1; end < 64; end++ {
		sameSalvage(t, rawPage(0, full)[:end], nil, list(0), api.OK)
		sameSalvage(t, joined(rawPage(0, one), rawPage(1, full)[:end]), one, list(1), api.OK)
		sameSalvage(t, joined(make([]byte, 64), rawPage(1, full), make([]byte, end)), full, list(0, 2), api.OK)
	}
	// Pages are those of 64 bytes each, wherever something is missing.
	sameSalvage(t, joined(rawPage(0, one)[:63], rawPage(1, full)), nil, list(0, 1), api.OK)
	for number := range 3 {
		for _, b := range unsound(number) {
			all := pagesFrom(one, full, one)
			copy(all[64*number:], b)
			want := slices.Concat(slices.Delete([][]api.LogLine{one, full, one}, number, number+1)...)
			sameSalvage(t, all, want, list(number), api.OK)
		}
	}
}
