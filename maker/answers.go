package maker

import (
	"strconv"
	"strings"

	"spile/api"
)

// answer is what a line returns.
type answer interface {
	text() string
}

// What can be answered: that all is well; a number, a range, sap, and bytes; lists of these, and a list for each year; and several answers.
type (
	fine    struct{}
	number  int
	extent  api.Range
	grams   api.Sap
	hex     []byte
	numbers []int
	extents []api.Range
	years   [][]int
	several []answer
)

func (fine) text() string      { return "ok" }
func (n number) text() string  { return strconv.Itoa(int(n)) }
func (a extent) text() string  { return strconv.Itoa(a.Low) + ".." + strconv.Itoa(a.High) }
func (s grams) text() string   { return strconv.Itoa(s.Water) + "+" + strconv.Itoa(s.Sugar) }
func (l numbers) text() string { return joined(l, ",", strconv.Itoa) }
func (l several) text() string { return joined(l, " ", answer.text) }

func (b hex) text() string {
	var s strings.Builder
	for _, octet := range b {
		s.WriteByte(hexDigits[octet>>4])
		s.WriteByte(hexDigits[octet&15])
	}
	return s.String()
}

func (l extents) text() string {
	return joined(l, ",", func(a api.Range) string { return extent(a).text() })
}

func (l years) text() string {
	return joined(l, " / ", func(year []int) string { return numbers(year).text() })
}

// joined returns the texts of things with something between them.
func joined[T any](l []T, between string, text func(T) string) string {
	if len(l) == 0 {
		return none
	}
	var texts []string
	for _, thing := range l {
		texts = append(texts, text(thing))
	}
	return strings.Join(texts, between)
}

// These turn what the packages return into answers.
func done(e api.Errno) (answer, api.Errno)                    { return fine{}, e }
func asNumber(n int, e api.Errno) (answer, api.Errno)         { return number(n), e }
func asPair(a, b int, e api.Errno) (answer, api.Errno)        { return several{number(a), number(b)}, e }
func asRange(a api.Range, e api.Errno) (answer, api.Errno)    { return extent(a), e }
func asRanges(l []api.Range, e api.Errno) (answer, api.Errno) { return extents(l), e }
func asSap(s api.Sap, e api.Errno) (answer, api.Errno)        { return grams(s), e }
func asList(l []int, e api.Errno) (answer, api.Errno)         { return numbers(l), e }
func asBytes(b []byte, e api.Errno) (answer, api.Errno)       { return hex(b), e }
