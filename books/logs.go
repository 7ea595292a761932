package books

import (
	"iter"
	"slices"

	"spile/api"
)

const (
	maxGap   = 255                   // minutes between two lines of a page, at most
	pageHead = 5                     // the bytes before those of the lines
	lineSize = 4                     // the bytes of a line
	sumAt    = api.LogPage - sumSize // where the sum of a page begins
)

// WriteLog returns the bytes of a log.
func WriteLog(l []api.LogLine) ([]byte, api.Errno) {
	if len(l) > api.MaxLogLines {
		return nil, api.ErrLong
	}
	if !validLines(l) {
		return nil, api.ErrArg
	}
	var b []byte
	for number, lines := range parts(l) {
		b = append(b, pageOf(number, lines)...)
	}
	return b, api.OK
}

// ReadLog returns the log of bytes.
func ReadLog(b []byte) (l []api.LogLine, page int, e api.Errno) {
	if len(b) > api.MaxLogLines*api.LogPage {
		return nil, 0, api.ErrLong
	}
	var before []api.LogLine
	for number, own := range pages(b) {
		lines, e := readPage(number, own)
		if e == api.OK && !follow(before, lines) {
			e = api.ErrForm
		}
		if e != api.OK {
			return nil, number, e
		}
		l, before = append(l, lines...), lines
	}
	if len(l) > api.MaxLogLines {
		return nil, 0, api.ErrLong
	}
	return l, 0, api.OK
}

// Salvage returns the lines of all pages that are not damaged, and the numbers of the others.
func Salvage(b []byte) (l []api.LogLine, bad []int, e api.Errno) {
	if len(b) > api.MaxLogLines*api.LogPage {
		return nil, nil, api.ErrLong
	}
	for number, own := range pages(b) {
		lines, e := readPage(number, own)
		if e != api.OK {
			bad = append(bad, number)
		}
		l = append(l, lines...)
	}
	return l, bad, api.OK
}

// pages yields the bytes of each page with its number; the last one may not be complete.
func pages(b []byte) iter.Seq2[int, []byte] {
	return func(yield func(int, []byte) bool) {
		number := 0
		for own := range slices.Chunk(b, api.LogPage) {
			if !yield(number, own) {
				return
			}
			number++
		}
	}
}

// parts yields the lines of each page of a log with its number.
func parts(l []api.LogLine) iter.Seq2[int, []api.LogLine] {
	return func(yield func(int, []api.LogLine) bool) {
		for number := 0; len(l) > 0; number++ {
			end := 1
			for end < len(l) && !full(l[:end], l[end]) {
				end++
			}
			if !yield(number, l[:end]) {
				return
			}
			l = l[end:]
		}
	}
}

// full reports whether a page with some lines ends before the next one: it has as many lines as it can have, or is too early.
func full(lines []api.LogLine, next api.LogLine) bool {
	return len(lines) == api.LogPerPage || next.Minute-lines[len(lines)-1].Minute > maxGap
}

// follow reports whether lines are those of the page that begins behind the lines of the page before, if there is one.
func follow(before, lines []api.LogLine) bool {
	if len(before) == 0 {
		return true
	}
	return earlier(before[len(before)-1], lines[0]) && full(before, lines[0])
}

// pageOf returns the bytes of a page.
func pageOf(number int, lines []api.LogLine) []byte {
	minute := lines[0].Minute
	b := append([]byte{byte(len(lines))}, highestFirst(minute, 4)...)
	for _, x := range lines {
		b = append(b, byte(x.Minute-minute), byte(x.Node))
		b = append(b, highestFirst(x.Value, 2)...)
		minute = x.Minute
	}
	b = append(b, make([]byte, sumAt-len(b))...)
	return append(b, pageSum(number, b)...)
}

// pageSum returns the sum of a page with a number and the bytes before its sum.
func pageSum(number int, b []byte) []byte {
	return sumBytes(append(highestFirst(number, 2), b...)...)
}

// readPage returns the lines of a page that is sound, or its error.
func readPage(number int, b []byte) ([]api.LogLine, api.Errno) {
	if len(b) < api.LogPage {
		return nil, api.ErrEnd
	}
	if !slices.Equal(pageSum(number, b[:sumAt]), b[sumAt:]) {
		return nil, api.ErrSum
	}
	lines := linesOf(b)
	// A page has one form alone: if these bytes are written for its lines, they are theirs.
	if len(lines) == 0 || !validLines(lines) || !slices.Equal(pageOf(number, lines), b) {
		return nil, api.ErrForm
	}
	return lines, api.OK
}

// linesOf returns the lines of which there are the bytes in a page, or none if it can not have so many.
func linesOf(b []byte) []api.LogLine {
	count := int(b[0])
	if count > api.LogPerPage {
		return nil
	}
	var l []api.LogLine
	minute := fromHighest(b[1:pageHead]...)
	for own := range slices.Chunk(b[pageHead:pageHead+count*lineSize], lineSize) {
		minute += int(own[0])
		l = append(l, api.LogLine{Minute: minute, Node: int(own[1]), Value: fromHighest(own[2:]...)})
	}
	return l
}

// validLines reports whether lines are those of a log, as far as there may be so many.
func validLines(l []api.LogLine) bool {
	for i, x := range l {
		valid := in(0, api.MaxLogMinute, x.Minute) && in(0, api.MaxNodes-1, x.Node) && in(0, api.MaxVacuum, x.Value)
		if !valid || i > 0 && !earlier(l[i-1], x) {
			return false
		}
	}
	return true
}

// earlier reports whether a line comes before another one.
func earlier(a, b api.LogLine) bool {
	return a.Minute < b.Minute || a.Minute == b.Minute && a.Node < b.Node
}
