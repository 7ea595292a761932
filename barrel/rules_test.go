package barrel_test

import (
	"fmt"
	"math/rand/v2"
	"reflect"
	"slices"
	"testing"

	"spile/api"
	"spile/barrel"
)

// question is all that the package can be asked about, and all that is done to a ledger.
type question struct {
	l          api.GradeRules
	b          api.BarrelTest
	x          api.Syrup
	w, v       api.Weighing
	k          api.Keg
	kegs       []api.Keg
	gathered   []int
	takes      []api.Take
	mass       int
	item, bush int
}

// ask calls every function, on a ledger of its own, and returns the results of each as a list that ends with the error.
func (q question) ask() map[string][]any {
	told := map[string][]any{"CheckGrades": {barrel.CheckGrades(q.l)}, "CheckTest": {barrel.CheckTest(q.b)}}
	grade, e := barrel.Grade(q.l, q.x)
	told["Grade"] = []any{grade, e}
	net, e := barrel.Net(q.l, q.b)
	told["Net"] = []any{net, e}
	density, e := barrel.Density(q.l, q.b)
	told["Density"] = []any{density, e}
	flavour, possibly, surely, e := barrel.Panel(q.l, q.b)
	told["Panel"] = []any{flavour, possibly, surely, e}
	grades, e := barrel.Grades(q.l, q.b)
	told["Grades"] = []any{grades, e}
	worth, e := barrel.Worth(q.l, q.b)
	told["Worth"] = []any{worth, e}
	intact, e := barrel.Intact(q.l, q.w, q.v)
	told["Intact"] = []any{intact, e}
	mixed, e := barrel.Mixed(q.kegs)
	told["Mixed"] = []any{mixed, e}
	kegged, e := barrel.Kegged(q.l, q.k)
	told["Kegged"] = []any{kegged, e}
	best, gain, e := barrel.Blend(q.l, q.kegs)
	told["Blend"] = []any{best, gain, e}
	q.keep(told)
	return told
}

// keep does all to a ledger, and asks it.
func (q question) keep(told map[string][]any) {
	l := barrel.NewLedger()
	for i, m := range q.gathered {
		item, e := l.Gather(m)
		told[fmt.Sprint("Gather ", min(i, 3))] = []any{item, e}
	}
	item, e := l.Make(q.takes, q.mass)
	told["Make"] = []any{item, e}
	left, lost, e := l.Left(q.item)
	told["Left"] = []any{left, lost, e}
	bushes, e := l.Trace(q.item)
	told["Trace"] = []any{bushes, e}
	items, e := l.Recall(q.bush)
	told["Recall"] = []any{items, e}
	amount, e := l.Amount(q.item, q.bush)
	told["Amount"] = []any{amount, e}
}

// usualQuestion asks about the chapter's examples.
func usualQuestion() question {
	return question{
		l: usual(), b: usualTest(), x: api.Syrup{Density: 6650, Light: 600, Flavour: 3}, w: api.Weighing{Gross: 30000, Seal: 7}, v: api.Weighing{Gross: 30100, Seal: 7},
		k: keg(340, 660, 800, 2), kegs: kegs(keg(340, 660, 800, 2), keg(680, 1320, 730, 3), keg(340, 660, 240, 3)),
		gathered: list(1000, 500), takes: takes(0, 600, 1, 500), mass: 50, item: 2, bush: 1,
	}
}

// numbersOf returns where all numbers of a question are.
func (q *question) numbersOf() []*int {
	numbers := []*int{&q.l.Bad, &q.l.Scale, &q.l.Price, &q.b.Gross, &q.b.Tare, &q.x.Density, &q.x.Light, &q.x.Flavour, &q.w.Gross, &q.w.Seal, &q.v.Gross, &q.v.Seal, &q.mass, &q.item, &q.bush}
	for _, a := range []*api.Range{&q.l.Density, &q.b.Hydro, &q.b.Temperature, &q.b.Light} {
		numbers = append(numbers, &a.Low, &a.High)
	}
	for i := range q.l.Correction {
		numbers = append(numbers, &q.l.Correction[i].X, &q.l.Correction[i].Y)
	}
	for i := range q.l.Classes {
		c := &q.l.Classes[i]
		numbers = append(numbers, &c.Least, &c.Flavour.Low, &c.Flavour.High, &c.Price)
	}
	for i := range q.b.Panel {
		x := &q.b.Panel[i]
		numbers = append(numbers, &x.Flavour.Low, &x.Flavour.High, &x.Sure, &x.Perhaps)
	}
	ofKeg := func(k *api.Keg) {
		numbers = append(numbers, &k.Sap.Water, &k.Sap.Sugar, &k.Light, &k.Flavour)
	}
	ofKeg(&q.k)
	for i := range q.kegs {
		ofKeg(&q.kegs[i])
	}
	for i := range q.gathered {
		numbers = append(numbers, &q.gathered[i])
	}
	for i := range q.takes {
		numbers = append(numbers, &q.takes[i].From, &q.takes[i].Mass)
	}
	return numbers
}

// checkZero reports results beside an error, and returns how many functions answered without one.
func checkZero(t *testing.T, what string, q question) int {
	t.Helper()
	answers := 0
	for name, results := range q.ask() {
		last := len(results) - 1
		if results[last].(api.Errno) == api.OK {
			answers++
			continue
		}
		if slices.ContainsFunc(results[:last], func(v any) bool { return !reflect.ValueOf(v).IsZero() }) {
			t.Fatal(what, name, results, q)
		}
	}
	return answers
}

// hard are numbers at the limits, and beyond them.
func hard() []int {
	return []int{low, low + 1, -api.MaxSpan - 1, -api.MaxSpan, -ton, -10001, -10000, -1, 0, 1, 2, 3, 8, 9, 10, 19, 20, 21, 199, 200, 201, 249, 250, 254, 255, 256, 500, 599, 600, 750, 999, 1000, 1001, 6600, 6890, 9999, 10000, 10001, 1000000, 1000001, ton - 1, ton, ton + 1, api.MaxMass, api.MaxMass + 1, api.MaxSpan, api.MaxSpan + 1, high - 1, high}
}

// TestP1AllArguments also shows P2: each call ends, none panics, and with an error there is no other result.
func TestP1AllArguments(t *testing.T) {
	checkZero(t, "nothing", question{})
	first := usualQuestion()
	if n := checkZero(t, "the usual question", first); n != 19 {
		t.Error("only", n, "functions answer", first.ask())
	}
	for i := range first.numbersOf() {
		for _, n := range hard() {
			q := usualQuestion()
			*q.numbersOf()[i] = n
			checkZero(t, fmt.Sprint("the number ", i, " is ", n), q)
		}
	}
	d := dice()
	for range 30000 {
		q := usualQuestion()
		all := q.numbersOf()
		for range pick(d, 2, 12) {
			*all[d.IntN(len(all))] = hard()[d.IntN(len(hard()))]
		}
		checkZero(t, "many numbers", q)
	}
	for _, n := range []int{0, 1, 2, 3, 8, 9, 12, 13, 20, 21, 59, 60, 61, 199, 200, 201, 5000} {
		q := usualQuestion()
		q.kegs, q.gathered, q.takes = times(n, q.k), times(n, 10), times(n, api.Take{From: 0, Mass: 1})
		checkZero(t, fmt.Sprint("lists of ", n), q)
		q.b.Panel = times(n, tastes(r(1, 9), 0, 255))
		checkZero(t, fmt.Sprint("a panel of ", n), q)
		q.l.Classes = manyClasses(n)
		checkZero(t, fmt.Sprint("classes ", n), q)
		q.l = usual()
		q.l.Correction = rows(n)
		checkZero(t, fmt.Sprint("rows ", n), q)
		for i := range q.takes {
			q.takes[i].From = i
		}
		checkZero(t, fmt.Sprint("other takes ", n), q)
	}
}

// TestP1HardSteps does anything with hard numbers to a ledger that has things already.
func TestP1HardSteps(t *testing.T) {
	d := dice()
	for range 200 {
		things := pick(d, 0, 12)
		l, k := someThings(t, d, things)
		before := account(l, things)
		n := func() int { return hard()[d.IntN(len(hard()))] }
		for range 50 {
			var x []api.Take
			for range pick(d, 0, 3) {
				take := api.Take{From: d.IntN(things + 1), Mass: n()}
				if d.IntN(4) == 0 {
					take = api.Take{From: n(), Mass: 1}
				}
				x = append(x, take)
			}
			m := n()
			want, wantErr := newTwin(k).Make(x, m)
			if wantErr == api.OK {
				continue
			}
			got, e := l.Make(x, m)
			same(t, fmt.Sprint("Make ", x, m), got, e, want, wantErr)
			if m < 1 || m > ton {
				got, e = l.Gather(m)
				same(t, fmt.Sprint("Gather ", m), got, e, 0, api.ErrRange)
			}
			item, bush := n(), n()
			a, e := l.Amount(item, bush)
			wantAmount, wantErr := k.Amount(item, bush)
			same(t, fmt.Sprint("Amount ", item, bush), a, e, wantAmount, wantErr)
		}
		if after := account(l, things); after != before {
			t.Fatal("what is refused has changed something:", before, after)
		}
	}
}

// newTwin returns a store that shares nothing with another one.
func newTwin(k *store) *store {
	return &store{masses: slices.Clone(k.masses), takes: slices.Clone(k.takes)}
}

// roomy returns a copy of a list with room behind it, so that what is written there is seen as well.
func roomy[T any](l []T) []T { return append(make([]T, 0, len(l)+30), l...) }

// copied returns a copy of a question that shares no memory with it.
func (q question) copied() question {
	q.l.Correction, q.l.Classes, q.b.Panel, q.kegs, q.gathered, q.takes = roomy(q.l.Correction), roomy(q.l.Classes), roomy(q.b.Panel), roomy(q.kegs), roomy(q.gathered), roomy(q.takes)
	return q
}

// full returns a question whose lists show all of their room.
func (q question) full() question {
	q.l.Correction, q.l.Classes, q.b.Panel = q.l.Correction[:cap(q.l.Correction)], q.l.Classes[:cap(q.l.Classes)], q.b.Panel[:cap(q.b.Panel)]
	q.kegs, q.gathered, q.takes = q.kegs[:cap(q.kegs)], q.gathered[:cap(q.gathered)], q.takes[:cap(q.takes)]
	return q
}

// someQuestions are those that are answered, those that are not, and those with nothing in their lists.
func someQuestions(d *rand.Rand) []question {
	bad, late, none := usualQuestion(), usualQuestion(), usualQuestion()
	bad.l.Correction[2].Y, bad.b.Panel[2].Sure, bad.kegs[2].Light, bad.takes[1].From = 10001, 1, -1, 7
	late.b.Gross, late.b.Temperature, late.takes[1].Mass = 0, one(401), 501
	none.l, none.b, none.kegs, none.gathered, none.takes = api.GradeRules{}, api.BarrelTest{}, nil, nil, nil
	questions := []question{usualQuestion(), bad, late, none}
	for range 500 {
		q := usualQuestion()
		q.l = anyRules(d)
		q.b, q.kegs = anyTest(d, q.l), anyKegs(d, pick(d, 0, 8))
		q.l.Density = r(3000, 7000)
		q.gathered, q.takes = nil, nil
		for i := range pick(d, 1, 9) {
			q.gathered = append(q.gathered, pick(d, 1, 100))
			if i < 3 {
				q.takes = append(q.takes, api.Take{From: i, Mass: pick(d, 1, q.gathered[i])})
			}
		}
		q.mass, q.item, q.bush = 1, len(q.gathered), d.IntN(len(q.gathered))
		questions = append(questions, q)
	}
	return questions
}

// scribble writes into all lists of what was returned, and into the room behind them.
func scribble(results map[string][]any) {
	for _, name := range []string{"Grades", "Blend", "Trace", "Recall"} {
		if l, ok := results[name][0].([]int); ok {
			for i := range l[:cap(l)] {
				l[:cap(l)][i] = -7
			}
		}
	}
}

// TestR4Memory shows that no argument is changed, neither by a call nor by what is written into a result.
func TestR4Memory(t *testing.T) {
	for _, q := range someQuestions(dice()) {
		given, kept := q.copied(), q.copied()
		results := given.ask()
		text := fmt.Sprint(results)
		if !reflect.DeepEqual(given.full(), kept.full()) {
			t.Fatal("an argument is changed:", given, kept)
		}
		scribble(results)
		if !reflect.DeepEqual(given.full(), kept.full()) {
			t.Fatal("a result shares memory with an argument:", given, kept)
		}
		if again := fmt.Sprint(given.ask()); again != text {
			t.Fatal("it is not the same again:", text, again)
		}
	}
}

// TestR4LaterChanges shows that a result stays as it is when the lists that were given change.
func TestR4LaterChanges(t *testing.T) {
	for _, q := range someQuestions(dice()) {
		given := q.copied()
		results := given.ask()
		text := fmt.Sprint(results)
		all := given.full()
		for _, n := range all.numbersOf() {
			*n = -7
		}
		if fmt.Sprint(results) != text {
			t.Fatal("a result changes with an argument:", text, results)
		}
	}
}

// TestR4LedgerKeepsNothing shows that a ledger does not see what is done later with the lists that it was given, or with those that it returned.
func TestR4LedgerKeepsNothing(t *testing.T) {
	d := dice()
	for range 100 {
		l, k := barrel.NewLedger(), &store{}
		for len(k.masses) < 15 {
			x := anyStep(d, k)
			given := roomy(x.takes)
			kept := slices.Clone(given[:cap(given)])
			_, wantErr := x.do(k)
			_, e := step{takes: given, mass: x.mass, make: x.make}.do(l)
			sameErr(t, "a step", e, wantErr)
			if !slices.Equal(given[:cap(given)], kept) {
				t.Fatal("an argument is changed:", given, kept)
			}
			for i := range given {
				given[i] = api.Take{From: -7, Mass: -7}
			}
			for item := range k.masses {
				bushes, _ := l.Trace(item)
				items, _ := l.Recall(item)
				for _, told := range [][]int{bushes, items} {
					for i := range told[:cap(told)] {
						told[:cap(told)][i] = -7
					}
				}
			}
			if account(l, len(k.masses)) != account(k, len(k.masses)) {
				t.Fatal("a ledger keeps what it was given, or gives what it keeps:", account(l, len(k.masses)), account(k, len(k.masses)))
			}
		}
	}
}

// TestR4TwoLedgers does different things to two ledgers, in turn: each is as if it were alone.
func TestR4TwoLedgers(t *testing.T) {
	d := dice()
	for range 50 {
		a, b := barrel.NewLedger(), barrel.NewLedger()
		alone, other := &store{}, &store{}
		for range 30 {
			x, y := anyStep(d, alone), anyStep(d, other)
			x.do(a)
			x.do(alone)
			y.do(b)
			y.do(other)
		}
		if account(a, 12) != account(alone, 12) || account(b, 12) != account(other, 12) {
			t.Fatal("ledgers share something:", account(a, 12), account(alone, 12), account(b, 12), account(other, 12))
		}
	}
}

// TestR3NilAndEmpty asks with nil lists and with empty ones.
func TestR3NilAndEmpty(t *testing.T) {
	nils, empty := usualQuestion(), usualQuestion()
	nils.kegs, nils.gathered, nils.takes = nil, nil, nil
	empty.kegs, empty.gathered, empty.takes = kegs(), list(), []api.Take{}
	sameAnswers(t, "kegs and takes", nils, empty)
	nils.b.Panel, empty.b.Panel = nil, []api.Taster{}
	sameAnswers(t, "no panel", nils, empty)
	nils.l.Classes, empty.l.Classes = nil, []api.GradeClass{}
	sameAnswers(t, "no classes", nils, empty)
	nils.l, empty.l = usual(), usual()
	nils.l.Correction, empty.l.Correction = nil, []api.Row{}
	sameAnswers(t, "no rows", nils, empty)
}

// sameAnswers compares what is told for two questions.
func sameAnswers(t *testing.T, what string, a, b question) {
	t.Helper()
	if one, other := fmt.Sprint(a.ask()), fmt.Sprint(b.ask()); one != other {
		t.Errorf("%s: empty lists are not as nil ones: %s; %s", what, one, other)
	}
}

// TestP1AsMuchAsThereCanBe asks about as much as there can be; it ends soon.
func TestP1AsMuchAsThereCanBe(t *testing.T) {
	l := rulesWith(func(l *api.GradeRules) {
		l.Classes, l.Correction, l.Density, l.Price = manyClasses(8), rows(60), r(0, 10000), 1000000
	})
	b := testWith(func(b *api.BarrelTest) {
		b.Light, b.Hydro, b.Temperature, b.Panel = r(0, 1000), r(0, 10000), r(0, 59), times(20, tastes(r(1, 9), 0, 255))
	})
	for range 1000 {
		sameGrades(t, l, b, list(-1, 0, 1, 2, 3, 4, 5, 6, 7), api.OK)
	}
	var k []api.Keg
	for i := range 12 {
		k = append(k, keg(ton-i, i, 1000-i, 1))
	}
	for range 20 {
		if _, _, e := barrel.Blend(l, k); e != api.OK {
			t.Fatal("Blend", e)
		}
	}
}
