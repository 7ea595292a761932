package vat_test

import (
	"fmt"
	"math/rand/v2"
	"reflect"
	"slices"
	"testing"

	"spile/api"
	"spile/vat"
)

// question is all that the package can be asked about, and all that is done to a cellar.
type question struct {
	l               api.VatRules
	sizes           []int
	tank, to        int
	sap             api.Sap
	load            api.Range
	mass, moved     int
	hours           int
	temperature     api.Range
	temperatures    []api.Range
	take, pass, n   int
	membrane        api.Membrane
	brix, most      int
	washed, dumped  int
	told, toldOther int
}

// ask calls every function, on a cellar of its own, and returns the results of each as a list that ends with the error.
func (q question) ask() map[string][]any {
	c, e := vat.New(q.l, q.sizes)
	told := map[string][]any{"New": {c != nil, e}}
	told["Pour"] = []any{c.Pour(q.tank, q.sap, q.load)}
	told["Stay"] = []any{c.Stay(q.hours, q.temperature)}
	told["Move"] = []any{c.Move(q.tank, q.to, q.moved)}
	drawn, e := c.Draw(q.tank, q.mass)
	told["Draw"] = []any{drawn, e}
	tank, e := c.Tell(q.told)
	told["Tell"] = []any{tank, e}
	tank, e = c.Tell(q.toldOther)
	told["Tell of the other one"] = []any{tank, e}
	dumped, e := c.Dump(q.dumped)
	told["Dump"] = []any{dumped, e}
	told["Wash"] = []any{c.Wash(q.washed)}
	book, e := c.Book()
	told["Book"] = []any{book, e}
	possibly, surely, e := vat.Keeps(q.l, q.load, q.temperatures)
	told["Keeps"] = []any{possibly, surely, e}
	kept, gone, e := vat.Squeeze(q.sap, q.take, q.pass)
	told["Squeeze"] = []any{kept, gone, e}
	kept, gone, e = vat.Rounds(q.sap, q.take, q.pass, q.n)
	told["Rounds"] = []any{kept, gone, e}
	needs, e := vat.Reach(q.sap, q.membrane, q.brix, q.most)
	told["Reach"] = []any{needs, e}
	return told
}

// usualQuestion asks about the chapter's examples.
func usualQuestion() question {
	return question{
		l: usual(), sizes: list(1000, 500), tank: 0, to: 1, sap: s(490, 10), load: r(100, 200), mass: 60, moved: 100, hours: 10, temperature: r(40, 60),
		temperatures: set(r(40, 60), one(200), r(0, 200)), take: 5000, pass: 200, n: 2, membrane: api.Membrane{Take: 5000, Pass: r(0, 200)}, brix: 600, most: 9,
		washed: 1, dumped: 1, told: 0, toldOther: 1,
	}
}

// numbersOf returns where all numbers of a question are.
func (q *question) numbersOf() []*int {
	numbers := []*int{&q.l.Limit, &q.tank, &q.to, &q.sap.Water, &q.sap.Sugar, &q.mass, &q.moved, &q.hours, &q.take, &q.pass, &q.n, &q.membrane.Take, &q.brix, &q.most, &q.washed, &q.dumped, &q.told, &q.toldOther}
	for _, a := range []*api.Range{&q.l.Film, &q.load, &q.temperature, &q.membrane.Pass} {
		numbers = append(numbers, &a.Low, &a.High)
	}
	for i := range q.l.Growth {
		numbers = append(numbers, &q.l.Growth[i].X, &q.l.Growth[i].Y)
	}
	for i := range q.sizes {
		numbers = append(numbers, &q.sizes[i])
	}
	for i := range q.temperatures {
		numbers = append(numbers, &q.temperatures[i].Low, &q.temperatures[i].High)
	}
	return numbers
}

// checkZero reports results beside an error, and returns how many functions answered without one.
func checkZero(t *testing.T, what string, q question) int {
	t.Helper()
	answers := 0
	for name, results := range q.ask() {
		last := len(results) - 1
		if results[last].(api.Errno) == api.OK {
			answers++
			continue
		}
		if slices.ContainsFunc(results[:last], func(v any) bool { return !reflect.ValueOf(v).IsZero() }) {
			t.Fatal(what, name, results, q)
		}
	}
	return answers
}

// hard are numbers at the limits, and beyond them.
func hard() []int {
	return []int{low, low + 1, -api.MaxSpan - 1, -1000000001, -1, 0, 1, 2, 9, 10, 39, 40, 41, 99, 100, 101, 199, 200, 201, 500, 501, 999, 1000, 1001, 9999, 10000, 10001, 999999, 1000000, 1000001, full, full + 1, ton, ton + 1, api.MaxSpan, api.MaxSpan + 1, high - 1, high}
}

// TestP1AllArguments also shows P2: each call ends, none panics, and with an error there is no other result.
func TestP1AllArguments(t *testing.T) {
	checkZero(t, "nothing", question{})
	first := usualQuestion()
	// Dump comes before Wash, so that all can be done.
	if n := checkZero(t, "the usual question", first); n != 14 {
		t.Error("only", n, "functions answer", first.ask())
	}
	for i := range first.numbersOf() {
		for _, n := range hard() {
			q := usualQuestion()
			*q.numbersOf()[i] = n
			checkZero(t, fmt.Sprint("the number ", i, " is ", n), q)
		}
	}
	d := dice()
	for range 30000 {
		q := usualQuestion()
		all := q.numbersOf()
		for range pick(d, 2, 12) {
			*all[d.IntN(len(all))] = hard()[d.IntN(len(hard()))]
		}
		checkZero(t, "many numbers", q)
	}
	for _, n := range []int{0, 1, 2, 3, 19, 20, 21, 59, 60, 61, 999, 1000, 1001, 100000} {
		q := usualQuestion()
		q.sizes, q.temperatures = times(n, 1000), times(n, one(50))
		checkZero(t, fmt.Sprint("lists of ", n), q)
		q.l.Growth = rows(n)
		checkZero(t, fmt.Sprint("longer lists of ", n), q)
	}
}

// TestP1HardSteps does anything with hard numbers to a cellar that has sap already.
func TestP1HardSteps(t *testing.T) {
	d := dice()
	for range 300 {
		c, k := anyCellars(t, d)
		for range 100 {
			anyStep(d, len(k.sizes), k.rules.Growth).do(c)
			before := account(c, len(k.sizes))
			n := func() int { return hard()[d.IntN(len(hard()))] }
			tank := d.IntN(len(k.sizes))
			if d.IntN(4) == 0 {
				tank = n()
			}
			var e api.Errno
			switch d.IntN(4) {
			case 0:
				e = c.Pour(tank, s(n(), n()), r(n(), n()))
			case 1:
				_, e = c.Draw(tank, n())
			case 2:
				e = c.Move(tank, d.IntN(len(k.sizes)), n())
			default:
				e = c.Stay(n(), r(n(), n()))
			}
			if after := account(c, len(k.sizes)); e != api.OK && after != before {
				t.Fatal("what is refused has changed something:", e, before, after)
			}
		}
	}
}

// roomy returns a copy of a list with room behind it, so that what is written there is seen as well.
func roomy[T any](l []T) []T { return append(make([]T, 0, len(l)+100), l...) }

// copied returns a copy of a question that shares no memory with it.
func (q question) copied() question {
	q.l.Growth, q.sizes, q.temperatures = roomy(q.l.Growth), roomy(q.sizes), roomy(q.temperatures)
	return q
}

// full returns a question whose lists show all of their room.
func (q question) full() question {
	q.l.Growth, q.sizes, q.temperatures = q.l.Growth[:cap(q.l.Growth)], q.sizes[:cap(q.sizes)], q.temperatures[:cap(q.temperatures)]
	return q
}

// someQuestions are those that are answered, those that are not, and those with nothing in their lists.
func someQuestions(d *rand.Rand) []question {
	bad, late, none := usualQuestion(), usualQuestion(), usualQuestion()
	bad.l.Growth[2].Y, bad.sizes[1], bad.temperatures[2] = -1, 0, one(201)
	late.sizes[1], late.temperatures[2] = 0, r(1, 0)
	none.l.Growth, none.sizes, none.temperatures = nil, nil, nil
	questions := []question{usualQuestion(), bad, late, none}
	for range 100 {
		q := usualQuestion()
		q.l = anyRules(d)
		q.temperature, q.temperatures = anyHours(d, q.l.Growth, 1)[0], anyHours(d, q.l.Growth, pick(d, 0, 50))
		questions = append(questions, q)
	}
	return questions
}

func TestR4Memory(t *testing.T) {
	for _, q := range someQuestions(dice()) {
		given, kept := q.copied(), q.copied()
		results := given.ask()
		if !reflect.DeepEqual(given.full(), kept.full()) {
			t.Fatal("an argument is changed:", given, kept)
		}
		if again := given.ask(); !reflect.DeepEqual(again, results) {
			t.Fatal("it is not the same again:", results, again)
		}
	}
}

// TestR4LaterChanges shows that a cellar does not see what is done later with the lists that it was given, nor changes them.
func TestR4LaterChanges(t *testing.T) {
	q := usualQuestion().copied()
	c := newCellar(t, q.l, q.sizes...)
	other := newCellar(t, q.l, q.sizes...)
	kept := q.copied()
	pour(t, c, 0, s(490, 10), r(100, 200))
	stay(t, c, 10, r(40, 60))
	if !reflect.DeepEqual(q.full(), kept.full()) {
		t.Fatal("an argument is changed later:", q, kept)
	}
	for i := range q.l.Growth {
		q.l.Growth[i] = api.Row{X: i, Y: -7}
	}
	clear(q.sizes)
	stay(t, c, 10, r(40, 60))
	sameTank(t, c, 0, api.Tank{Sap: s(490, 10), Lots: 1, Load: r(620, 880), Age: one(20), Film: r(20, 40)})
	sameErr(t, "Pour", c.Pour(1, s(500, 0), one(0)), api.OK)
	sameTank(t, other, 0, api.Tank{})
	stay(t, other, 1, one(200))
	sameErr(t, "Pour", other.Pour(0, s(1000, 0), one(0)), api.OK)
}

// TestR4TwoCellars does different things to two cellars with the same rules, in turn: each is as if it were alone.
func TestR4TwoCellars(t *testing.T) {
	d := dice()
	for range 100 {
		l := anyRules(d)
		sizes := list(100, 60, 30)
		a, b := newCellar(t, l, sizes...), newCellar(t, l, sizes...)
		alone, other := newStore(l, sizes...), newStore(l, sizes...)
		for range 100 {
			x, y := anyStep(d, 3, l.Growth), anyStep(d, 3, l.Growth)
			x.do(a)
			x.do(alone)
			y.do(b)
			y.do(other)
			if account(a, 3) != account(alone, 3) || account(b, 3) != account(other, 3) {
				t.Fatal("cellars share something:", account(a, 3), account(alone, 3), account(b, 3), account(other, 3))
			}
		}
		drain(t, a, alone)
		drain(t, b, other)
	}
}

// TestR3NilAndEmpty asks with nil lists and with empty ones.
func TestR3NilAndEmpty(t *testing.T) {
	q := usualQuestion()
	q.temperatures, q.sizes = nil, nil
	nils := fmt.Sprint(q.ask())
	q.temperatures, q.sizes = []api.Range{}, []int{}
	if got := fmt.Sprint(q.ask()); got != nils {
		t.Error("empty lists are not as nil ones:", got, nils)
	}
	q.l.Growth = nil
	nils = fmt.Sprint(q.ask())
	q.l.Growth = []api.Row{}
	if got := fmt.Sprint(q.ask()); got != nils {
		t.Error("an empty table is not as a nil one:", got, nils)
	}
}

// TestP1Refused refuses everything between things that are done: what is refused is not seen in any later answer.
func TestP1Refused(t *testing.T) {
	d := dice()
	for range 100 {
		c, k := anyCellars(t, d)
		for range 60 {
			x := anyStep(d, len(k.sizes), k.rules.Growth)
			try, left := newTwin(k), k
			if _, e := x.do(try); e != api.OK {
				x.do(c)
				continue
			}
			got, e := x.do(c)
			want, wantErr := x.do(left)
			if got != want || e != wantErr {
				t.Fatal(x.name, got, e, want, wantErr)
			}
		}
		drain(t, c, k)
		if account(c, len(k.sizes)) != account(k, len(k.sizes)) {
			t.Fatal(account(c, len(k.sizes)), account(k, len(k.sizes)))
		}
	}
}

// newTwin returns a store that shares nothing with another one.
func newTwin(k *store) *store {
	twin := *k
	twin.films, twin.lots = slices.Clone(k.films), slices.Clone(k.lots)
	return &twin
}
