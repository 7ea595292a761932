package books_test

import (
	"fmt"
	"slices"
	"strings"
	"testing"

	"spile/api"
	"spile/books"
)

func TestP12_6Example(t *testing.T) {
	sameWriteCards(t, cards(usualCard()), "17 25000 6600-6650 3,4 *686b\n", api.OK)
	sameReadCards(t, "17 25000 6600-6650 3,4 *686b\n", cards(usualCard()), 0, api.OK)
}

func TestP12_6NoCard(t *testing.T) {
	sameWriteCards(t, nil, "", api.OK)
	sameWriteCards(t, cards(), "", api.OK)
	sameReadCards(t, "", nil, 0, api.OK)
}

// sameText compares what is written for cards, and reads it.
func sameText(t *testing.T, l []api.Card) {
	t.Helper()
	text, e := writeCardsOf(l)
	if e != api.OK {
		t.Fatal("the test is wrong:", l, e)
	}
	sameWriteCards(t, l, text, api.OK)
	sameReadCards(t, text, l, 0, api.OK)
}

// notCards compares what is written for cards that are not valid, and reads what would be their text.
func notCards(t *testing.T, c api.Card) {
	t.Helper()
	sameWriteCards(t, cards(c), "", api.ErrArg)
	sameReadCards(t, rawCard(c), nil, 1, api.ErrForm)
	sameWriteCards(t, cards(card(1, 1, 1, 1, 1), c), "", api.ErrArg)
	sameReadCards(t, rawCard(card(1, 1, 1, 1, 1))+rawCard(c), nil, 2, api.ErrForm)
}

// upTo returns the numbers from 0 on, so many of them.
func upTo(n int) []int {
	var l []int
	for i := range n {
		l = append(l, i)
	}
	return l
}

// TestP12_6Bounds has each field of a card at its bounds, and one step beyond them.
func TestP12_6Bounds(t *testing.T) {
	for _, c := range []struct {
		what        string
		set         func(c *api.Card, n int)
		least, most int
	}{
		{"Number", func(c *api.Card, n int) { c.Number = n }, 1, 1000000},
		{"Mass", func(c *api.Card, n int) { c.Mass = n }, 0, 1000000},
		{"Low", func(c *api.Card, n int) { c.Brix.Low = n }, 0, 6650},
		{"High", func(c *api.Card, n int) { c.Brix.High = n }, 6600, 10000},
		{"Brix", func(c *api.Card, n int) { c.Brix = between(n, n) }, 0, 10000},
		{"the first one of From", func(c *api.Card, n int) { c.From = list(n, 4) }, 0, 3},
		{"the last one of From", func(c *api.Card, n int) { c.From = list(3, n) }, 4, 99},
		{"the one of From", func(c *api.Card, n int) { c.From = list(n) }, 0, 99},
	} {
		for _, n := range list(c.least, c.least+1, c.most-1, c.most) {
			sameText(t, cards(with(usualCard(), func(x *api.Card) { c.set(x, n) })))
		}
		for _, n := range list(c.least-1, c.most+1, -far, far, low, high) {
			notCards(t, with(usualCard(), func(x *api.Card) { c.set(x, n) }))
		}
	}
}

// TestP12_6From has no number in From, as many as there may be and one more, out of order, and twice the same.
func TestP12_6From(t *testing.T) {
	for n := range 25 {
		c := with(usualCard(), func(c *api.Card) { c.From = upTo(n) })
		if n < 1 || n > 20 {
			notCards(t, c)
		} else {
			sameText(t, cards(c))
		}
	}
	for _, from := range [][]int{{4, 3}, {3, 3}, {0, 0}, {99, 99}, {1, 2, 3, 3}, {1, 2, 2, 3}, {1, 1, 2, 3}, {1, 3, 2, 4}, {2, 1, 3, 4}, {99, 0}, upTo(5000)} {
		notCards(t, with(usualCard(), func(c *api.Card) { c.From = from }))
	}
	sameText(t, cards(card(1, 0, 0, 0, 80, 81, 82, 83, 84, 85, 86, 87, 88, 89, 90, 91, 92, 93, 94, 95, 96, 97, 98, 99)))
}

// TestP12_6Most has as many cards as there may be, and one more.
func TestP12_6Most(t *testing.T) {
	for _, n := range list(1, 2, 199, 200) {
		sameText(t, numbered(n))
	}
	sameText(t, times(1, card(1000000, 1000000, 10000, 10000, upTo(20)...)))
	text := ""
	for i, c := range numbered(2000) {
		if text += rawCard(c); len(text) > 40000 {
			sameReadCards(t, text, nil, 0, api.ErrLong)
			break
		}
		if i == 200 || i == 201 || i > 200 && i%400 == 0 {
			sameReadCards(t, text, nil, 0, api.ErrLong)
			sameReadCards(t, text+"x", nil, i+2, api.ErrForm)
			sameReadCards(t, text+rawCard(c), nil, i+2, api.ErrTwice)
			sameReadCards(t, text+"17 25000 6600-6650 3,4 *686a\n", nil, i+2, api.ErrSum)
		}
	}
	for _, n := range list(201, 202, 5000) {
		sameWriteCards(t, numbered(n), "", api.ErrLong)
		sameWriteCards(t, make([]api.Card, n), "", api.ErrLong)
	}
	sameWriteCards(t, make([]api.Card, 200), "", api.ErrArg)
	sameWriteCards(t, append(numbered(199), card(200, -1, 0, 0, 0)), "", api.ErrArg)
}

// TestP12_6Order has numbers that fall, or are the same.
func TestP12_6Order(t *testing.T) {
	three := func(a, b, c int) []api.Card {
		return cards(card(a, 5, 1, 2, 3), card(b, 6, 1, 2, 3), card(c, 7, 1, 2, 3))
	}
	for _, c := range []struct {
		a, b, c, line int
	}{{1, 2, 3, 0}, {1, 999999, 1000000, 0}, {1, 1, 2, 2}, {1, 2, 2, 3}, {2, 1, 3, 2}, {1, 3, 2, 3}, {2, 3, 1, 3}, {3, 2, 1, 2}, {1000000, 1, 2, 2}, {5, 5, 5, 2}} {
		l := three(c.a, c.b, c.c)
		if c.line == 0 {
			sameText(t, l)
			continue
		}
		sameWriteCards(t, l, "", api.ErrArg)
		sameReadCards(t, rawCard(l[0])+rawCard(l[1])+rawCard(l[2]), nil, c.line, api.ErrTwice)
	}
}

// TestP12_6Form has lines with the sum of what is before, which are the text of no card.
func TestP12_6Form(t *testing.T) {
	words := "17 25000 6600-6650 3,4"
	sameReadCards(t, cardSummed(words), cards(usualCard()), 0, api.OK)
	for _, words := range []string{
		"", " ", "17", "17 25000", "17 25000 6600-6650", "17 25000 6600-6650 ", "17 25000 3,4", "17 6600-6650 3,4", "25000 6600-6650 3,4", "17 25000 6600 3,4", "17 25000 6600- 3,4", "17 25000 -6650 3,4", "17 25000 - 3,4", "17 25000  3,4", " 25000 6600-6650 3,4", "17  6600-6650 3,4",
		"017 25000 6600-6650 3,4", "17 025000 6600-6650 3,4", "17 25000 06600-6650 3,4", "17 25000 6600-06650 3,4", "17 25000 6600-6650 03,4", "17 25000 6600-6650 3,04", "17 00 6600-6650 3,4", "17 25000 00-6650 3,4", "17 25000 6600-6650 00,4",
		"+17 25000 6600-6650 3,4", "17 +25000 6600-6650 3,4", "17 25000 +6600-6650 3,4", "17 25000 6600-+6650 3,4", "17 25000 6600-6650 +3,4", "17 25000 6600-6650 3,+4", "-17 25000 6600-6650 3,4", "17 -25000 6600-6650 3,4", "17 -0 6600-6650 3,4", "17 25000 -0-6650 3,4", "17 25000 6600--6650 3,4", "17 25000 6600-6650-6650 3,4", "17 25000 6600-6650 -0,4", "17 25000 6600-6650 -3,4",
		" 17 25000 6600-6650 3,4", "17  25000 6600-6650 3,4", "17 25000  6600-6650 3,4", "17 25000 6600-6650  3,4", "17 25000 6600-6650 3,4 ", "17 25000 6600 - 6650 3,4", "17 25000 6600- 6650 3,4", "17 25000 6600-6650 3, 4", "17 25000 6600-6650 3 ,4", "17\t25000 6600-6650 3,4", "17 25000 6600-6650\t3,4", "17 25000 6600-6650 3,4\r",
		"17 25000 6600-6650 ,3,4", "17 25000 6600-6650 3,4,", "17 25000 6600-6650 3,,4", "17 25000 6600-6650 ,", "17 25000 6600-6650 3 4", "17 25000 6600-6650 3;4", "17 25000 6600-6650 3-4", "17 25000 6600,6650 3,4", "17 25000 6600:6650 3,4", "17,25000,6600-6650,3,4", "17 25000 6600-6650 3,4 5", "17 25000 6600-6650 3,4 *", "17 25000 6600-6650 3,4 *686b",
		"x 25000 6600-6650 3,4", "17 x 6600-6650 3,4", "17 25000 x-6650 3,4", "17 25000 6600-x 3,4", "17 25000 6600-6650 x", "17 25000 6600-6650 3,x", "17 2_5000 6600-6650 3,4", "17 0x17 6600-6650 3,4", "17 1e3 6600-6650 3,4", "17 25000.0 6600-6650 3,4", "17 25000 6600-6650 ٣", "１7 25000 6600-6650 3,4", "17 25000 6600-6650 3,4\x00", "\xff17 25000 6600-6650 3,4",
		"17 99999999999999999999 6600-6650 3,4", "99999999999999999999 25000 6600-6650 3,4", "17 9223372036854775808 6600-6650 3,4", "17 18446744073709551616 6600-6650 3,4", "17 25000 6600-6650 18446744073709551619,18446744073709551620", "17 25000 0-18446744073709551617 3,4", "17 25000 18446744073709551616-6650 3,4", "18446744073709551633 25000 6600-6650 3,4",
	} {
		sameReadCards(t, cardSummed(words), nil, 1, api.ErrForm)
		sameReadCards(t, rawCard(card(1, 0, 0, 0, 0))+cardSummed(words)+"x", nil, 2, api.ErrForm)
		_, _, e := readCardsOf(cardSummed(words))
		if e != api.ErrForm {
			t.Error("the test is wrong:", words, e)
		}
	}
}

// TestP12_6Sum has lines with wrong sums, without a sum, with capitals in the sum, and with sums in another form.
func TestP12_6Sum(t *testing.T) {
	words := "17 25000 6600-6650 3,4"
	for _, c := range []struct {
		end  string
		want api.Errno
	}{
		{" *686b", api.OK}, {" *686a", api.ErrSum}, {" *0000", api.ErrSum}, {" *b686", api.ErrSum}, {" *ffff", api.ErrSum}, {" *86b6", api.ErrSum}, {" *6868", api.ErrSum}, {" *768b", api.ErrSum}, {"  *686b", api.ErrSum}, {" *686b *686b", api.ErrSum}, {" *686b *0000", api.ErrSum},
		{"", api.ErrForm}, {" ", api.ErrForm}, {" *", api.ErrForm}, {" *6", api.ErrForm}, {" *68", api.ErrForm}, {" *686", api.ErrForm}, {" *686b0", api.ErrForm}, {" *0686b", api.ErrForm}, {" *686B", api.ErrForm}, {" *686A", api.ErrForm}, {" *68 b", api.ErrForm}, {" *686g", api.ErrForm}, {" *686`", api.ErrForm}, {" *686:", api.ErrForm}, {" *686/", api.ErrForm}, {" *-86b", api.ErrForm}, {" *+86b", api.ErrForm}, {" *686é", api.ErrForm}, {" *68é", api.ErrForm}, {" *686b ", api.ErrForm}, {" *686b\r", api.ErrForm}, {"*686b", api.ErrForm}, {"\t*686b", api.ErrForm}, {" #686b", api.ErrForm}, {" 686b", api.ErrForm}, {" * 686b", api.ErrForm}, {" **686b", api.ErrForm}, {" *686b\x00", api.ErrForm}, {" *0x686b", api.ErrForm},
	} {
		l, line := cards(usualCard()), 0
		if c.want != api.OK {
			l, line = nil, 1
		}
		sameReadCards(t, words+c.end+"\n", l, line, c.want)
		own, n, e := readCardsOf(words + c.end + "\n")
		sameReadCards(t, words+c.end+"\n", own, n, e)
		// Without a line feed it is no line.
		sameReadCards(t, words+c.end, nil, 1, api.ErrForm)
		sameReadCards(t, rawCard(card(1, 0, 0, 0, 0))+words+c.end, nil, 2, api.ErrForm)
	}
	// Four digits are four of 0 to 9 and a to f, wherever others are.
	for x := range 256 {
		for at := range 4 {
			digits := []byte("686b")
			digits[at] = byte(x)
			text := words + " *" + string(digits) + "\n"
			l, line, e := readCardsOf(text)
			sameReadCards(t, text, l, line, e)
			if want := strings.Contains("0123456789abcdef", string(rune(x))); want == (e == api.ErrForm) {
				t.Error("the test is wrong:", text, e)
			}
		}
	}
	for _, text := range []string{" ", " *", " *f", " *ff", " *fff", " *0", " *00", " *000", "*0000", "0000", " 0000"} {
		sameReadCards(t, text+"\n", nil, 1, api.ErrForm)
	}
	// What is no card is looked at after its sum, and before its number.
	sameReadCards(t, "x *0000\n", nil, 1, api.ErrSum)
	sameReadCards(t, " *0000\n", nil, 1, api.ErrSum)
	sameReadCards(t, " *ffff\n", nil, 1, api.ErrForm)
	sameReadCards(t, "*ffff\n", nil, 1, api.ErrForm)
	sameReadCards(t, "\n", nil, 1, api.ErrForm)
	sameReadCards(t, "\n\n", nil, 1, api.ErrForm)
	sameReadCards(t, rawCard(usualCard())+"\n", nil, 2, api.ErrForm)
	sameReadCards(t, "\n"+rawCard(usualCard()), nil, 1, api.ErrForm)
	sameReadCards(t, rawCard(usualCard())+rawCard(usualCard()), nil, 2, api.ErrTwice)
	sameReadCards(t, rawCard(usualCard())+"17 25000 6600-6650 3,4 *686a\n", nil, 2, api.ErrSum)
	sameReadCards(t, rawCard(usualCard())+cardSummed("17 25000 6600-6650 4,3"), nil, 2, api.ErrForm)
	sameReadCards(t, rawCard(usualCard())+strings.TrimSuffix(rawCard(usualCard()), "\n"), nil, 2, api.ErrForm)
	// Each sum has four digits, with zeros in front.
	zeros := map[int]bool{}
	for n := range 5000 {
		c := card(n+1, n, 0, n, 7)
		text := rawCard(c)
		zeros[len(strings.TrimLeft(text[len(text)-5:len(text)-1], "0"))] = true
		sameText(t, cards(c))
	}
	if !zeros[3] || !zeros[2] || !zeros[4] {
		t.Error("no sum begins with zeros:", zeros)
	}
}

// TestP12_6TooLong has as many bytes as there may be, and one more.
func TestP12_6TooLong(t *testing.T) {
	text := ""
	for n := range 3000 {
		if c := rawCard(card(n+1, 0, 0, 0, 0)); len(text)+len(c) <= 40000 {
			text += c
		}
	}
	sameReadCards(t, text, nil, 0, api.ErrLong)
	lines := strings.Count(text, "\n")
	text += strings.Repeat("x", 40000-len(text))
	sameReadCards(t, text, nil, lines+1, api.ErrForm)
	sameReadCards(t, text+"x", nil, 0, api.ErrLong)
	sameReadCards(t, strings.Repeat("x", 40000), nil, 1, api.ErrForm)
	sameReadCards(t, strings.Repeat("\n", 40000), nil, 1, api.ErrForm)
	sameReadCards(t, strings.Repeat("x", 40001), nil, 0, api.ErrLong)
	sameReadCards(t, strings.Repeat("\n", 40001), nil, 0, api.ErrLong)
	sameReadCards(t, strings.Repeat("x", 5000000), nil, 0, api.ErrLong)
	sameReadCards(t, cardSummed("17 25000 6600-6650 "+strings.Repeat("1,", 19000)+"1"), nil, 1, api.ErrForm)
}

// TestP12_6Definitions compares any cards, valid and not, and texts that are changed.
func TestP12_6Definitions(t *testing.T) {
	d := dice()
	wrote, read := map[api.Errno]int{}, map[api.Errno]int{}
	for range 3000 {
		l := anyCards(d, pick(d, 0, anyOf(d, 2, 5, 12)))
		sameText(t, l)
		text, _ := writeCardsOf(l)
		for range 3 {
			other := garbled(d, text)
			own, line, e := readCardsOf(other)
			sameReadCards(t, other, own, line, e)
			read[e]++
		}
		for range d.IntN(3) {
			if len(l) > 0 {
				c := &l[d.IntN(len(l))]
				*anyOf(d, &c.Number, &c.Mass, &c.Brix.Low, &c.Brix.High, &c.From[d.IntN(len(c.From))]) = anyOf(d, -1, 0, 1, 2, 99, 100, 10000, 10001, 1000000, 1000001, pick(d, 0, 99))
			}
		}
		text, e := writeCardsOf(l)
		sameWriteCards(t, l, text, e)
		wrote[e]++
		text = ""
		for _, c := range l {
			text += rawCard(c)
		}
		own, line, e := readCardsOf(text)
		sameReadCards(t, text, own, line, e)
		read[e]++
	}
	for _, e := range []api.Errno{api.OK, api.ErrSum, api.ErrForm, api.ErrTwice} {
		if read[e] < 100 || wrote[api.OK] < 100 || wrote[api.ErrArg] < 100 {
			t.Error("too few of the error", e, read, wrote)
		}
	}
}

// garbled returns a text of cards in which some bytes are others, are missing, or are there twice; some of the sums are right.
func garbled(d interface{ IntN(n int) int }, text string) string {
	for range d.IntN(3) {
		at := d.IntN(len(text) + 1)
		some := []string{" ", "0", "1", "9", "-", ",", "*", "\n", "a", "A", "+", "", text[at:min(len(text), at+1)]}[d.IntN(13)]
		text = text[:at] + some + text[min(len(text), at+d.IntN(2)):]
	}
	if d.IntN(3) > 0 {
		return text
	}
	all := ""
	for line := range strings.Lines(text) {
		if words, _, found := strings.Cut(line, " *"); found {
			line = cardSummed(words)
		}
		all += line
	}
	return all
}

// TestP12_6Lists shows that the lists of cards share no memory.
func TestP12_6Lists(t *testing.T) {
	l, _, e := books.ReadCards(rawCard(card(1, 2, 3, 4, 5, 6)) + rawCard(card(2, 2, 3, 4, 5, 6)))
	if e != api.OK || len(l) != 2 {
		t.Fatal(l, e)
	}
	for i := range l[0].From[:cap(l[0].From)] {
		l[0].From[:cap(l[0].From)][i] = 77
	}
	if !slices.Equal(l[1].From, list(5, 6)) {
		t.Error("a card shares memory with another one:", fmt.Sprint(l))
	}
}
