package books_test

import (
	"fmt"
	"math/rand/v2"
	"reflect"
	"slices"
	"strings"
	"testing"

	"spile/api"
	"spile/books"
)

// question is all that the package can be asked about.
type question struct {
	n                                           int
	number, some, mapBytes, logBytes, bookBytes []byte
	net                                         api.Net
	log                                         []api.LogLine
	cards                                       []api.Card
	text                                        string
	book                                        []api.BookEntry
}

// answer is what a function returns: the number of what has the error, the other results, and the error.
type answer struct {
	at      int
	results []any
	e       api.Errno
}

// ask calls every function.
func (q question) ask() map[string]answer {
	told := map[string]answer{"Sum": {0, []any{books.Sum(q.some)}, api.OK}}
	b, e := books.Put(q.n)
	told["Put"] = answer{0, []any{b}, e}
	n, used, e := books.Get(q.number)
	told["Get"] = answer{0, []any{n, used}, e}
	b, e = books.WriteMap(q.net)
	told["WriteMap"] = answer{0, []any{b}, e}
	tubing, e := books.ReadMap(q.mapBytes)
	told["ReadMap"] = answer{0, []any{tubing}, e}
	b, e = books.WriteLog(q.log)
	told["WriteLog"] = answer{0, []any{b}, e}
	log, at, e := books.ReadLog(q.logBytes)
	told["ReadLog"] = answer{at, []any{log}, e}
	log, bad, e := books.Salvage(q.logBytes)
	told["Salvage"] = answer{0, []any{log, bad}, e}
	text, e := books.WriteCards(q.cards)
	told["WriteCards"] = answer{0, []any{text}, e}
	cards, at, e := books.ReadCards(q.text)
	told["ReadCards"] = answer{at, []any{cards}, e}
	s, at, e := books.Replay(q.book)
	told["Replay"] = answer{at, []any{s}, e}
	seals, e := books.Seals(q.book)
	told["Seals"] = answer{0, []any{seals}, e}
	b, e = books.WriteBook(q.book)
	told["WriteBook"] = answer{0, []any{b}, e}
	book, at, e := books.ReadBook(q.bookBytes)
	told["ReadBook"] = answer{at, []any{book}, e}
	book, used, e = books.Rescue(q.bookBytes)
	told["Rescue"] = answer{0, []any{book, used}, e}
	return told
}

// functions is how many functions there are.
const functions = 15

// usualQuestion asks about the chapter's examples, in a way that everything is answered.
func usualQuestion() question {
	log, _ := writeLogOf(usualLog())
	return question{
		n: 64, number: numbersOf(64), some: octets(1, 2, 3), mapBytes: rawMap(bush()), logBytes: log, bookBytes: rawBook(usualBook()),
		net: bush(), log: usualLog(), cards: cards(card(3, 100, 0, 10000, 0, 99), usualCard()), text: rawCard(usualCard()), book: usualBook(),
	}
}

// setter returns what sets a number.
func setter[T ~int | ~byte](p *T) func(int) { return func(n int) { *p = T(n) } }

// bytesOf returns what sets each byte of a question, and numbersOf what sets each number of it.
func (q *question) bytesOf() []func(int) {
	var l []func(int)
	for _, b := range [][]byte{q.number, q.some, q.mapBytes, q.logBytes, q.bookBytes} {
		for i := range b {
			l = append(l, setter(&b[i]))
		}
	}
	return l
}

func (q *question) numbersOf() []func(int) {
	l := []func(int){setter(&q.n), setter(&q.net.Pump)}
	for i := range q.net.Pipes {
		p := &q.net.Pipes[i]
		l = append(l, setter(&p.Parent), setter(&p.Length), setter(&p.Bore), setter(&p.Drop), setter(&p.Taps))
	}
	for i := range q.log {
		x := &q.log[i]
		l = append(l, setter(&x.Minute), setter(&x.Node), setter(&x.Value))
	}
	for i := range q.cards {
		c := &q.cards[i]
		l = append(l, setter(&c.Number), setter(&c.Mass), setter(&c.Brix.Low), setter(&c.Brix.High))
		for j := range c.From {
			l = append(l, setter(&c.From[j]))
		}
	}
	for i := range q.book {
		x := &q.book[i]
		l = append(l, setter(&x.Day), setter(&x.Kind), setter(&x.Item), setter(&x.Grams), setter(&x.Sap.Water), setter(&x.Sap.Sugar))
	}
	return l
}

// check compares what is told with the definitions, reports results beside an error, and returns how many functions answered without one.
func check(t *testing.T, what string, q question) int {
	t.Helper()
	answers := 0
	for name, a := range q.ask() {
		if a.e == api.OK {
			answers++
		}
		if a.e == api.OK && a.at != 0 || a.e != api.OK && slices.ContainsFunc(a.results, func(v any) bool { return !reflect.ValueOf(v).IsZero() }) {
			t.Fatal(what, name, a, q)
		}
	}
	b, e := putOf(q.n)
	samePut(t, q.n, b, e)
	n, used, e := getOf(q.number)
	sameGet(t, q.number, n, used, e)
	sameSum(t, q.some, sumOf(q.some))
	b, e = writeMapOf(q.net)
	sameWriteMap(t, q.net, b, e)
	tubing, e := readMapOf(q.mapBytes)
	sameReadMap(t, q.mapBytes, tubing, e)
	b, e = writeLogOf(q.log)
	sameWriteLog(t, q.log, b, e)
	log, at, e := readLogOf(q.logBytes)
	sameReadLog(t, q.logBytes, log, at, e)
	log, bad, e := salvageOf(q.logBytes)
	sameSalvage(t, q.logBytes, log, bad, e)
	text, e := writeCardsOf(q.cards)
	sameWriteCards(t, q.cards, text, e)
	cards, at, e := readCardsOf(q.text)
	sameReadCards(t, q.text, cards, at, e)
	s, at, e := replayOf(q.book)
	sameReplay(t, q.book, s, at, e)
	seals, e := sealsOf(q.book)
	sameSeals(t, q.book, seals, e)
	b, e = writeBookOf(q.book)
	sameWriteBook(t, q.book, b, e)
	book, at, e := readBookOf(q.bookBytes)
	sameReadBook(t, q.bookBytes, book, at, e)
	book, used, e = rescueOf(q.bookBytes)
	sameRescue(t, q.bookBytes, book, used, e)
	return answers
}

// hard are numbers at the limits, and beyond them.
func hard() []int {
	return []int{low, low + 1, -far - 1, -far, -10001, -10000, -2, -1, 0, 1, 2, 3, 4, 6, 7, 13, 14, 15, 59, 60, 61, 77, 80, 81, 99, 100, 127, 128, 129, 255, 256, 365, 366, 1000, 1001, 9999, 10000, 10001, 65535, 65536, 100000, 100001, 999999, 1000000, 1000001, 1000000000, 1000000001, mass, mass + 1, far, far + 1, high - 1, high}
}

// TestP1AllArguments also shows P2: each call ends, none panics, and with an error there is no other result.
func TestP1AllArguments(t *testing.T) {
	check(t, "nothing", question{})
	first := usualQuestion()
	if n := check(t, "the usual question", first); n != functions {
		t.Error("only", n, "functions answer", first.ask())
	}
	for i := range first.numbersOf() {
		for _, n := range hard() {
			q := usualQuestion()
			q.numbersOf()[i](n)
			check(t, fmt.Sprint("the number ", i, " is ", n), q)
		}
	}
	for i := range first.bytesOf() {
		for _, n := range list(0, 1, 2, 15, 60, 127, 128, 255) {
			q := usualQuestion()
			q.bytesOf()[i](n)
			check(t, fmt.Sprint("the byte ", i, " is ", n), q)
		}
	}
	d := dice()
	for range 2000 {
		q := usualQuestion()
		all := append(q.numbersOf(), q.bytesOf()...)
		for range pick(d, 2, 9) {
			all[d.IntN(len(all))](hard()[d.IntN(len(hard()))])
		}
		q.text = garbled(d, q.text+"\n"+q.text)
		check(t, "many numbers", q)
	}
}

// TestP1AllLengths asks with lists, bytes and texts of all lengths.
func TestP1AllLengths(t *testing.T) {
	d := dice()
	for _, n := range []int{0, 1, 2, 3, 7, 8, 9, 19, 20, 21, 59, 60, 61, 63, 64, 65, 199, 200, 201, 299, 300, 301, 2000, 2001, 30000, 30001, 40000, 40001, 128000, 128001, 200000} {
		q := usualQuestion()
		q.number, q.some, q.mapBytes, q.logBytes, q.bookBytes = anyBytes(d, n), anyBytes(d, n), anyBytes(d, n), anyBytes(d, n), anyBytes(d, n)
		q.text = strings.Repeat("1", n)
		q.log, q.book = apart(n, 3), times(n, spill(0, 0))
		q.net = star(min(n, 3000) + 1)
		q.cards = numbered(min(n, 3000))
		check(t, fmt.Sprint("lists of ", n), q)
		q.number, q.text = times(n, byte(255)), strings.Repeat("1 ", n/2)
		q.mapBytes, q.logBytes, q.bookBytes = times(n, byte(0)), times(n, byte(0)), times(n, byte(0))
		q.log, q.book = make([]api.LogLine, n), make([]api.BookEntry, n)
		q.net, q.cards = api.Net{Pipes: make([]api.Pipe, n)}, make([]api.Card, n)
		check(t, fmt.Sprint("lists of nothing, ", n), q)
		q.mapBytes = summed(joined(octets(77), times(n, byte(2))))
		q.bookBytes = summed(times(n, byte(2)))
		q.cards = cards(card(1, 1, 1, 1, upTo(n)...))
		q.text = rawCard(q.cards[0])
		check(t, fmt.Sprint("long ones, ", n), q)
	}
}

// roomy returns a copy of a list with room behind it, so that what is written there is seen as well.
func roomy[T any](l []T) []T { return append(make([]T, 0, len(l)+30), l...) }

// shown returns a list with all of its room.
func shown[T any](l []T) []T { return l[:cap(l)] }

// lists returns a question each list of which goes through the function for its kind.
func (q question) lists(bytes func([]byte) []byte, pipes func([]api.Pipe) []api.Pipe, log func([]api.LogLine) []api.LogLine, cards func([]api.Card) []api.Card, numbers func([]int) []int, book func([]api.BookEntry) []api.BookEntry) question {
	for _, b := range []*[]byte{&q.number, &q.some, &q.mapBytes, &q.logBytes, &q.bookBytes} {
		*b = bytes(*b)
	}
	q.net.Pipes, q.log, q.cards, q.book = pipes(q.net.Pipes), log(q.log), cards(q.cards), book(q.book)
	for i := range q.cards {
		q.cards[i].From = numbers(q.cards[i].From)
	}
	return q
}

// copied returns a copy of a question that shares no memory with it, and full one whose lists show all of their room.
func (q question) copied() question {
	return q.lists(roomy[byte], roomy[api.Pipe], roomy[api.LogLine], roomy[api.Card], roomy[int], roomy[api.BookEntry])
}

func (q question) full() question {
	all := func(l []api.Card) []api.Card { return slices.Clone(shown(l)) }
	return q.lists(shown[byte], shown[api.Pipe], shown[api.LogLine], all, shown[int], shown[api.BookEntry])
}

// anyQuestion returns a question most of which is answered.
func anyQuestion(d *rand.Rand) question {
	log, _ := writeLogOf(anyLog(d, pick(d, 0, 30)))
	text, _ := writeCardsOf(anyCards(d, pick(d, 0, 5)))
	return question{
		n: anyNumber(d), number: joined(numbersOf(anyNumber(d)), anyBytes(d, 3)), some: anyBytes(d, pick(d, 0, 20)), mapBytes: rawMap(anyNet(d, pick(d, 1, 9))), logBytes: spoiled(d, log), bookBytes: bent(d, rawBook(validBook(d, pick(d, 0, 9)))),
		net: anyNet(d, pick(d, 1, 9)), log: anyLog(d, pick(d, 0, 30)), cards: anyCards(d, pick(d, 0, 5)), text: text, book: anyBook(d, pick(d, 0, 20)),
	}
}

// someQuestions are those that are answered, those that are not, and those with nothing in their lists.
func someQuestions(d *rand.Rand) []question {
	bad, late := usualQuestion(), usualQuestion()
	for _, b := range [][]byte{bad.mapBytes, bad.logBytes, bad.bookBytes} {
		b[5] ^= 1
	}
	bad.number[1], bad.net.Pipes[4].Taps, bad.log[2].Node, bad.cards[1].From[1], bad.book[2].Day = 0, -1, -1, 3, -1
	late.book[2].Day = 0
	questions := []question{usualQuestion(), bad, late, {}}
	for range 500 {
		questions = append(questions, anyQuestion(d))
	}
	return questions
}

// overwrite writes into a list, and into the room behind it.
func overwrite[T any](l []T, x T) {
	for i := range shown(l) {
		shown(l)[i] = x
	}
}

// scribble writes into all lists of what was returned, and into the room behind them.
func scribble(told map[string]answer) {
	for _, a := range told {
		for _, x := range a.results {
			switch x := x.(type) {
			case []byte:
				overwrite(x, 77)
			case []int:
				overwrite(x, -7)
			case api.Net:
				overwrite(x.Pipes, pipe(-7, -7, -7, -7, -7))
			case []api.LogLine:
				overwrite(x, at(-7, -7, -7))
			case []api.Card:
				for _, c := range x {
					overwrite(c.From, -7)
				}
				overwrite(x, card(-7, -7, -7, -7))
			case []api.BookEntry:
				overwrite(x, gather(-7, -7, -7, -7))
			case api.BookState:
				overwrite(x.TankFrom, -7)
				overwrite(x.KettleFrom, -7)
				for _, b := range x.Barrels {
					overwrite(b.From, -7)
				}
				overwrite(x.Barrels, barrel(-7, -7, -7))
			}
		}
	}
}

// TestR4Memory shows that no argument is changed, neither by a call nor by what is written into a result.
func TestR4Memory(t *testing.T) {
	answers := map[string]int{}
	for _, q := range someQuestions(dice()) {
		given, kept := q.copied(), q.copied()
		told := given.ask()
		text := fmt.Sprint(told)
		if !reflect.DeepEqual(given.full(), kept.full()) {
			t.Fatal("an argument is changed:", given, kept)
		}
		scribble(told)
		if !reflect.DeepEqual(given.full(), kept.full()) {
			t.Fatal("a result shares memory with an argument:", given, kept)
		}
		if again := fmt.Sprint(given.ask()); again != text {
			t.Fatal("it is not the same again:", text, again)
		}
		for name, a := range told {
			if a.e == api.OK {
				answers[name]++
			}
		}
	}
	for name := range usualQuestion().ask() {
		if answers[name] < 50 {
			t.Error("too few answers of", name, answers)
		}
	}
}

// TestR4LaterChanges shows that a result stays as it is when the lists that were given change.
func TestR4LaterChanges(t *testing.T) {
	for _, q := range someQuestions(dice()) {
		given := q.copied()
		told := given.ask()
		text := fmt.Sprint(told)
		all := given.full()
		for _, set := range append(all.numbersOf(), all.bytesOf()...) {
			set(-7)
		}
		if fmt.Sprint(told) != text {
			t.Fatal("a result changes with an argument:", text, told)
		}
	}
}

// TestR4Results shows that no two lists of a result share memory.
func TestR4Results(t *testing.T) {
	l := book(gather(1, 3, 50, 50), gather(1, 5, 50, 50), boil(1, 100, 0), fill(1, 20, 1), fill(1, 20, 2))
	s, _, e := books.Replay(l)
	if e != api.OK {
		t.Fatal(e)
	}
	lists := [][]int{s.TankFrom, s.KettleFrom, s.Barrels[0].From, s.Barrels[1].From}
	for i, own := range lists {
		overwrite(own, -i)
		for j, other := range lists {
			if j > i && !slices.Equal(other, list(3, 5)) {
				t.Error("two lists share memory:", i, j, lists)
			}
		}
	}
}

// TestR3NilAndEmpty asks with nil lists and with empty ones.
func TestR3NilAndEmpty(t *testing.T) {
	empty := question{number: octets(), some: octets(), mapBytes: octets(), logBytes: octets(), bookBytes: octets(), net: api.Net{Pipes: []api.Pipe{}}, log: lines(), cards: cards(), book: book()}
	if one, other := fmt.Sprint(question{}.ask()), fmt.Sprint(empty.ask()); one != other {
		t.Errorf("empty lists are not as nil ones: %s; %s", one, other)
	}
	one, e := books.WriteCards(cards(api.Card{Number: 1, From: nil}))
	other, f := books.WriteCards(cards(api.Card{Number: 1, From: list()}))
	if one != other || e != f || e != api.ErrArg {
		t.Error("empty lists are not as nil ones:", one, e, other, f)
	}
}

// TestP1AsMuchAsThereCanBe asks about as much as there can be; it ends soon.
func TestP1AsMuchAsThereCanBe(t *testing.T) {
	d := dice()
	for range 3 {
		q := usualQuestion()
		q.n, q.number, q.some = -far, numbersOf(-far), anyBytes(d, 100000)
		q.net = anyNet(d, 60)
		q.mapBytes = rawMap(q.net)
		q.log = apart(2000, 256)
		q.logBytes, _ = writeLogOf(q.log)
		q.cards = nil
		for n := range 200 {
			q.cards = append(q.cards, card(999801+n, 1000000, 10000, 10000, someBushes(d, 20)...))
		}
		q.text, _ = writeCardsOf(q.cards)
		q.book = greatBook(d, 300)
		q.bookBytes = rawBook(q.book)
		if n := check(t, "as much as there can be", q); n != functions {
			t.Fatal("only", n, "functions answer")
		}
	}
}
