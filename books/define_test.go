package books_test

import (
	"fmt"
	"math/big"
	"regexp"
	"slices"
	"strconv"
	"strings"

	"spile/api"
)

// putOf writes a number in groups of 7 bits.
func putOf(n int) ([]byte, api.Errno) {
	if n < -far || n > far {
		return nil, api.ErrRange
	}
	z := 2 * n
	if n < 0 {
		z = -2*n - 1
	}
	text := strconv.FormatInt(int64(z), 2)
	text = strings.Repeat("0", (7-len(text)%7)%7) + text
	var b []byte
	for len(text) > 0 {
		digit, _ := strconv.ParseInt(text[len(text)-7:], 2, 64)
		text = text[:len(text)-7]
		if len(text) > 0 {
			digit += 128
		}
		b = append(b, byte(digit))
	}
	return b, api.OK
}

// getOf adds the digits of a number.
func getOf(b []byte) (n, used int, e api.Errno) {
	end := 0
	for end < len(b) && b[end] >= 128 {
		end++
	}
	switch {
	case end >= 8:
		return 0, 0, api.ErrRange
	case end == len(b):
		return 0, 0, api.ErrEnd
	case end > 0 && b[end] == 0:
		return 0, 0, api.ErrForm
	}
	z := new(big.Int)
	for i := range end + 1 {
		digit := big.NewInt(int64(b[i] % 128))
		z.Add(z, digit.Lsh(digit, uint(7*i)))
	}
	odd := z.Bit(0) == 1
	if odd {
		z.Add(z, big.NewInt(1)).Neg(z)
	}
	n = int(z.Quo(z, big.NewInt(2)).Int64())
	if n < -far || n > far {
		return 0, 0, api.ErrRange
	}
	return n, end + 1, api.OK
}

// sumOf shifts the bits of a register, the highest one first.
func sumOf(b []byte) int {
	var register, combined [16]bool
	for i, c := range "1010001011101011" {
		register[i], combined[i] = true, c == '1'
	}
	for _, x := range b {
		for bit := 7; bit >= 0; bit-- {
			noted := register[0]
			copy(register[:], register[1:])
			register[15] = false
			if noted != (x>>bit&1 == 1) {
				for i, c := range combined {
					register[i] = register[i] != c
				}
			}
		}
	}
	n := 0
	for _, bit := range register {
		n *= 2
		if bit {
			n++
		}
	}
	return n
}

// restOf returns the sum as the rest of a division: bits are numbers modulo 2, and what is divided are the bytes and 16 zeros, of which the first 16 bits are changed.
func restOf(b []byte) int {
	bits := uint(8 * len(b))
	n := new(big.Int).SetBytes(b)
	n.Lsh(n, 16)
	n.Xor(n, new(big.Int).Lsh(big.NewInt(65535), bits))
	by := big.NewInt(0x1A2EB)
	for n.BitLen() > 16 {
		n.Xor(n, new(big.Int).Lsh(by, uint(n.BitLen()-17)))
	}
	return int(n.Int64())
}

// highFirst returns a number in so many bytes, the highest one first.
func highFirst(n, size int) []byte {
	var b []byte
	for i := size - 1; i >= 0; i-- {
		b = append(b, byte(n>>(8*i)))
	}
	return b
}

// summed returns bytes with their sum behind them.
func summed(b []byte) []byte { return joined(b, highFirst(sumOf(b), 2)) }

// numbersOf returns the bytes of numbers.
func numbersOf(l ...int) []byte {
	var b []byte
	for _, n := range l {
		own, _ := putOf(n)
		b = append(b, own...)
	}
	return b
}

// validNet is as chapter 3 says.
func validNet(n api.Net) bool {
	if len(n.Pipes) < 1 || len(n.Pipes) > 60 || n.Pump < 0 || n.Pump > 10000 || n.Pipes[0] != (api.Pipe{Parent: -1}) {
		return false
	}
	for i, p := range n.Pipes {
		if i > 0 && (p.Parent < 0 || p.Parent >= i || p.Length < 1 || p.Length > 100000 || p.Bore < 4 || p.Bore > 80 || p.Drop < -10000 || p.Drop > 10000 || p.Taps < 0 || p.Taps > 1000) {
			return false
		}
	}
	return true
}

// rawMap returns the bytes of tubing, valid or not, with a right sum.
func rawMap(n api.Net) []byte {
	b := joined(octets(77), numbersOf(len(n.Pipes), n.Pump))
	for i, p := range n.Pipes {
		if i > 0 {
			b = append(b, numbersOf(i-p.Parent, p.Length, p.Bore, p.Drop, p.Taps)...)
		}
	}
	return summed(b)
}

func writeMapOf(n api.Net) ([]byte, api.Errno) {
	if !validNet(n) {
		return nil, api.ErrArg
	}
	return rawMap(n), api.OK
}

// readMapOf reads number by number.
func readMapOf(b []byte) (api.Net, api.Errno) {
	if len(b) < 3 {
		return api.Net{}, api.ErrEnd
	}
	own, sum := b[:len(b)-2], b[len(b)-2:]
	if sumOf(own) != int(sum[0])*256+int(sum[1]) {
		return api.Net{}, api.ErrSum
	}
	right, rest := own[0] == 77, own[1:]
	next := func() int {
		n, used, e := getOf(rest)
		right, rest = right && e == api.OK, rest[used:]
		return n
	}
	nodes := next()
	n := net(next())
	for i := 1; i < nodes && right; i++ {
		n.Pipes = append(n.Pipes, pipe(i-next(), next(), next(), next(), next()))
	}
	if !right || nodes < 1 || len(rest) > 0 || !validNet(n) {
		return api.Net{}, api.ErrForm
	}
	return n, api.OK
}

// validLine is what a line may be, and inOrder reports whether a line comes before another one.
func validLine(x api.LogLine) bool {
	return x.Minute >= 0 && x.Minute <= 1000000000 && x.Node >= 0 && x.Node <= 59 && x.Value >= 0 && x.Value <= 10000
}

func inOrder(a, b api.LogLine) bool {
	return a.Minute < b.Minute || a.Minute == b.Minute && a.Node < b.Node
}

// rawPage returns the bytes of a page with a right sum, whatever its lines are.
func rawPage(number int, l []api.LogLine) []byte {
	b := make([]byte, 62)
	b[0] = byte(len(l))
	for i, x := range l {
		if i == 0 {
			copy(b[1:], highFirst(x.Minute, 4))
		} else {
			b[5+4*i] = byte(x.Minute - l[i-1].Minute)
		}
		b[6+4*i] = byte(x.Node)
		copy(b[7+4*i:], highFirst(x.Value, 2))
	}
	return pageSummed(number, b)
}

// pageSummed returns the first 62 bytes of a page with the sum that is right for its number.
func pageSummed(number int, b []byte) []byte {
	return joined(b[:62], highFirst(sumOf(joined(highFirst(number, 2), b[:62])), 2))
}

func writeLogOf(l []api.LogLine) ([]byte, api.Errno) {
	if len(l) > 2000 {
		return nil, api.ErrLong
	}
	var all, own []api.LogLine
	var b []byte
	number := 0
	for _, x := range l {
		if !validLine(x) || len(all) > 0 && !inOrder(all[len(all)-1], x) {
			return nil, api.ErrArg
		}
		if len(own) == 14 || len(own) > 0 && x.Minute > own[len(own)-1].Minute+255 {
			b, own = append(b, rawPage(number, own)...), nil
			number++
		}
		all, own = append(all, x), append(own, x)
	}
	if len(own) > 0 {
		b = append(b, rawPage(number, own)...)
	}
	return b, api.OK
}

// soundOf returns the lines of a page if it is sound, or its error.
func soundOf(number int, b []byte) ([]api.LogLine, api.Errno) {
	if len(b) < 64 {
		return nil, api.ErrEnd
	}
	if !slices.Equal(pageSummed(number, b), b) {
		return nil, api.ErrSum
	}
	count := int(b[0])
	if count < 1 || count > 14 || b[5] != 0 || slices.ContainsFunc(b[5+4*count:62], func(x byte) bool { return x != 0 }) {
		return nil, api.ErrForm
	}
	minute := int(b[1])<<24 + int(b[2])<<16 + int(b[3])<<8 + int(b[4])
	var l []api.LogLine
	for i := range count {
		own := b[5+4*i:]
		minute += int(own[0])
		x := at(minute, int(own[1]), int(own[2])*256+int(own[3]))
		if !validLine(x) || i > 0 && !inOrder(l[i-1], x) {
			return nil, api.ErrForm
		}
		l = append(l, x)
	}
	return l, api.OK
}

// pageAt returns the bytes of a page, and pagesOf how many pages there are, the last one may not be complete.
func pageAt(b []byte, number int) []byte { return b[64*number : min(len(b), 64*number+64)] }

func pagesOf(b []byte) int { return (len(b) + 63) / 64 }

func readLogOf(b []byte) (l []api.LogLine, page int, e api.Errno) {
	if len(b) > 128000 {
		return nil, 0, api.ErrLong
	}
	before := 0
	for number := range pagesOf(b) {
		own, e := soundOf(number, pageAt(b, number))
		if e == api.OK && number > 0 {
			last := l[len(l)-1]
			if !inOrder(last, own[0]) || before < 14 && own[0].Minute <= last.Minute+255 {
				e = api.ErrForm
			}
		}
		if e != api.OK {
			return nil, number, e
		}
		l, before = append(l, own...), len(own)
	}
	if len(l) > 2000 {
		return nil, 0, api.ErrLong
	}
	return l, 0, api.OK
}

func salvageOf(b []byte) (l []api.LogLine, bad []int, e api.Errno) {
	if len(b) > 128000 {
		return nil, nil, api.ErrLong
	}
	for number := range pagesOf(b) {
		if own, e := soundOf(number, pageAt(b, number)); e == api.OK {
			l = append(l, own...)
		} else {
			bad = append(bad, number)
		}
	}
	return l, bad, api.OK
}

// validCard is as the chapter says.
func validCard(c api.Card) bool {
	valid := c.Number >= 1 && c.Number <= 1000000 && c.Mass >= 0 && c.Mass <= 1000000 && c.Brix.Low >= 0 && c.Brix.Low <= c.Brix.High && c.Brix.High <= 10000
	for i, n := range c.From {
		valid = valid && n >= 0 && n <= 99 && (i == 0 || n > c.From[i-1])
	}
	return valid && len(c.From) > 0 && len(c.From) <= 20
}

// wordsOf returns the text of a card before its sum, rawCard all of its line, whatever the card is, and cardSummed words with their sum.
func wordsOf(c api.Card) string {
	from := strings.ReplaceAll(strings.Trim(fmt.Sprint(c.From), "[]"), " ", ",")
	return fmt.Sprintf("%d %d %d-%d %s", c.Number, c.Mass, c.Brix.Low, c.Brix.High, from)
}

func rawCard(c api.Card) string { return cardSummed(wordsOf(c)) }

func cardSummed(words string) string { return fmt.Sprintf("%s *%04x\n", words, sumOf([]byte(words))) }

func writeCardsOf(l []api.Card) (string, api.Errno) {
	if len(l) > 200 {
		return "", api.ErrLong
	}
	text := ""
	for i, c := range l {
		if !validCard(c) || i > 0 && c.Number <= l[i-1].Number {
			return "", api.ErrArg
		}
		text += rawCard(c)
	}
	return text, api.OK
}

// sealed is what ends as with a sum, and carded what has the form of a card.
var (
	sealed = regexp.MustCompile(`(?s)^(.*) \*([0-9a-f]{4})$`)
	carded = regexp.MustCompile(`^(0|[1-9][0-9]*) (0|[1-9][0-9]*) (0|[1-9][0-9]*)-(0|[1-9][0-9]*) ((?:0|[1-9][0-9]*)(?:,(?:0|[1-9][0-9]*))*) \*[0-9a-f]{4}$`)
)

// readCardOf returns the card of a line without its line feed, or its error.
func readCardOf(text string) (api.Card, api.Errno) {
	if parts := sealed.FindStringSubmatch(text); parts != nil && parts[2] != fmt.Sprintf("%04x", sumOf([]byte(parts[1]))) {
		return api.Card{}, api.ErrSum
	}
	parts := carded.FindStringSubmatch(text)
	if parts == nil {
		return api.Card{}, api.ErrForm
	}
	number := func(text string) int {
		n, e := strconv.Atoi(text)
		if e != nil {
			return -1
		}
		return n
	}
	c := card(number(parts[1]), number(parts[2]), number(parts[3]), number(parts[4]))
	for _, bush := range strings.Split(parts[5], ",") {
		c.From = append(c.From, number(bush))
	}
	if !validCard(c) {
		return api.Card{}, api.ErrForm
	}
	return c, api.OK
}

func readCardsOf(s string) (l []api.Card, line int, e api.Errno) {
	if len(s) > 40000 {
		return nil, 0, api.ErrLong
	}
	all := strings.Split(s, "\n")
	for i, text := range all {
		if i == len(all)-1 {
			break
		}
		c, e := readCardOf(text)
		if e == api.OK && i > 0 && c.Number <= l[i-1].Number {
			e = api.ErrTwice
		}
		if e != api.OK {
			return nil, i + 1, e
		}
		l = append(l, c)
	}
	if all[len(all)-1] != "" {
		return nil, len(all), api.ErrForm
	}
	if len(l) > 200 {
		return nil, 0, api.ErrLong
	}
	return l, 0, api.OK
}
