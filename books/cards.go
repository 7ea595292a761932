package books

import (
	"strconv"
	"strings"

	"spile/api"
)

// sealSize is how many bytes of a card's text tell its sum: a space, a * and four digits.
const sealSize = 6

// WriteCards returns the text of cards.
func WriteCards(l []api.Card) (string, api.Errno) {
	if len(l) > api.MaxCards {
		return "", api.ErrLong
	}
	text, before := "", 0
	for _, c := range l {
		if !validCard(c) || c.Number <= before {
			return "", api.ErrArg
		}
		text += textOf(c)
		before = c.Number
	}
	return text, api.OK
}

// ReadCards returns the cards of a text.
func ReadCards(s string) (l []api.Card, line int, e api.Errno) {
	if len(s) > api.MaxCardText {
		return nil, 0, api.ErrLong
	}
	before := 0
	for text := range strings.Lines(s) {
		c, e := readCard(text)
		if e == api.OK && c.Number <= before {
			e = api.ErrTwice
		}
		if e != api.OK {
			return nil, len(l) + 1, e
		}
		l, before = append(l, c), c.Number
	}
	if len(l) > api.MaxCards {
		return nil, 0, api.ErrLong
	}
	return l, 0, api.OK
}

// readCard returns the card of a line, or its error.
func readCard(text string) (api.Card, api.Errno) {
	own, ended := strings.CutSuffix(text, "\n")
	if !ended {
		return api.Card{}, api.ErrForm
	}
	words := own[:max(0, len(own)-sealSize)]
	if told := own[len(words):]; isSeal(told) && told != seal(words) {
		return api.Card{}, api.ErrSum
	}
	c := cardOf(words)
	// A card has one form alone: if this text is written for it, it is its text.
	if !validCard(c) || textOf(c) != text {
		return api.Card{}, api.ErrForm
	}
	return c, api.OK
}

// textOf returns the text of a card.
func textOf(c api.Card) string {
	brix := decimal("-", c.Brix.Low, c.Brix.High)
	words := decimal(" ", c.Number, c.Mass) + " " + brix + " " + decimal(",", c.From...)
	return words + seal(words) + "\n"
}

// cardOf returns the card that has these words before its sum, if there is any.
func cardOf(words string) api.Card {
	number, words, _ := strings.Cut(words, " ")
	mass, words, _ := strings.Cut(words, " ")
	brix, from, _ := strings.Cut(words, " ")
	low, high, _ := strings.Cut(brix, "-")
	c := api.Card{Number: value(number), Mass: value(mass), Brix: api.Range{Low: value(low), High: value(high)}}
	for bush := range strings.SplitSeq(from, ",") {
		c.From = append(c.From, value(bush))
	}
	return c
}

// seal returns what tells the sum of words behind them, and isSeal reports whether a text can tell a sum.
func seal(words string) string {
	// The 1 in front keeps the zeros behind it.
	return " *" + strconv.FormatInt(1<<16+int64(sumOf([]byte(words)...)), 16)[1:]
}

func isSeal(text string) bool {
	sum, marked := strings.CutPrefix(text, " *")
	return marked && len(text) == sealSize && strings.Trim(sum, "0123456789abcdef") == ""
}

// decimal returns numbers with a text between two of them.
func decimal(between string, numbers ...int) string {
	var l []string
	for _, n := range numbers {
		l = append(l, strconv.Itoa(n))
	}
	return strings.Join(l, between)
}

// value returns the number of a text; what is returned if it has none is written in another way than the text.
func value(text string) int {
	n, _ := strconv.Atoi(text)
	return n
}

// validCard reports whether a card is valid.
func validCard(c api.Card) bool {
	return in(1, api.MaxCard, c.Number) && in(0, api.MaxCard, c.Mass) &&
		in(0, api.MaxBrix, c.Brix.Low, c.Brix.High) && c.Brix.Low <= c.Brix.High &&
		in(1, api.MaxCardFrom, len(c.From)) && in(0, api.MaxBookBush, c.From...) && ascending(c.From...)
}

// ascending reports whether each number is greater than the one before it.
func ascending(numbers ...int) bool {
	for i, n := range numbers {
		if i > 0 && n <= numbers[i-1] {
			return false
		}
	}
	return true
}
