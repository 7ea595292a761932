package season_test

import (
	"fmt"
	"math/rand/v2"
	"reflect"
	"slices"
	"testing"

	"spile/api"
	"spile/season"
)

// question is all that the package can be asked about.
type question struct {
	o           api.Outlook
	day, loss   int
	proof       []int
	bushes      []api.SeasonBush
	days        []int
	s           api.Stand
	wood        int
	price       api.Part
	cut         []int
	years       int
	grow, store api.Part
}

// ask calls every function, and returns the results of each as a list that ends with the error.
func (q question) ask() map[string][]any {
	told := map[string][]any{"Check": {season.Check(q.o)}}
	gains, e := season.Gains(q.o, q.day)
	told["Gains"] = []any{gains, e}
	losses, e := season.Losses(q.o, q.day)
	told["Losses"] = []any{losses, e}
	day, loss, proof, e := season.Least(q.o)
	told["Least"] = []any{proof, day, loss, e}
	proves, e := season.Proves(q.o, q.loss, q.proof)
	told["Proves"] = []any{proves, e}
	day, loss, e = season.Mean(q.o)
	told["Mean"] = []any{day, loss, e}
	by, e := season.Beaten(q.o)
	told["Beaten"] = []any{by, e}
	days, gain, e := season.Plan(q.o, q.bushes)
	told["Plan"] = []any{days, gain, e}
	gain, e = season.Worth(q.o, q.bushes, q.days)
	told["Worth"] = []any{gain, e}
	cut, worth, e := season.Thin(q.s, q.wood)
	told["Thin"] = []any{cut, worth, e}
	bound, e := season.Bound(q.s, q.wood, q.price)
	told["Bound"] = []any{bound, e}
	price, bound, e := season.Price(q.s, q.wood)
	told["Price"] = []any{price, bound, e}
	stands, stored, lost, e := season.Carbon(q.s, q.cut, q.years, q.grow, q.store)
	told["Carbon"] = []any{stands, stored, lost, e}
	return told
}

// usualQuestion asks about the chapter's examples.
func usualQuestion() question {
	s := usualStand()
	for i := range s.Stems {
		s.Stems[i].Carbon = 100
	}
	s.Beside = [][2]int{{0, 1}}
	return question{
		o: usual(), day: 1, loss: 4, proof: list(0, 1, 0, 0), bushes: usualBushes(), days: list(1, 2),
		s: s, wood: 8, price: part(6, 5), cut: list(1), years: 2, grow: part(1, 10), store: half,
	}
}

// numbersOf returns where all numbers of a question are.
func (q *question) numbersOf() []*int {
	numbers := []*int{&q.o.Life, &q.day, &q.loss, &q.wood, &q.price.Num, &q.price.Den, &q.years, &q.grow.Num, &q.grow.Den, &q.store.Num, &q.store.Den}
	for i := range q.o.Scenarios {
		numbers = append(numbers, &q.o.Scenarios[i].Weight)
		for j := range q.o.Scenarios[i].Runs {
			numbers = append(numbers, &q.o.Scenarios[i].Runs[j])
		}
	}
	for _, l := range [][]int{q.proof, q.days, q.cut} {
		for i := range l {
			numbers = append(numbers, &l[i])
		}
	}
	for i := range q.bushes {
		numbers = append(numbers, &q.bushes[i].Taps, &q.bushes[i].Work, &q.bushes[i].Percent)
	}
	for i := range q.s.Stems {
		numbers = append(numbers, &q.s.Stems[i].Wood, &q.s.Stems[i].Carbon, &q.s.Stems[i].Worth)
	}
	for i := range q.s.Beside {
		numbers = append(numbers, &q.s.Beside[i][0], &q.s.Beside[i][1])
	}
	return numbers
}

// checkZero reports results beside an error, and returns how many functions answered without one.
func checkZero(t *testing.T, what string, q question) int {
	t.Helper()
	answers := 0
	for name, results := range q.ask() {
		last := len(results) - 1
		if results[last].(api.Errno) == api.OK {
			answers++
			continue
		}
		if slices.ContainsFunc(results[:last], func(v any) bool { return !reflect.ValueOf(v).IsZero() }) {
			t.Fatal(what, name, results, q)
		}
	}
	return answers
}

// hard are numbers at the limits, and beyond them.
func hard() []int {
	return []int{low, low + 1, -api.MaxSpan - 1, -api.MaxPart, -1000000, -101, -2, -1, 0, 1, 2, 3, 4, 5, 8, 19, 20, 21, 63, 64, 65, 99, 100, 101, 119, 120, 121, 9999, 10000, 10001, 999999, 1000000, 1000001, allWood - 1, allWood, allWood + 1, api.MaxPart - 1, api.MaxPart, api.MaxPart + 1, api.MaxSpan, api.MaxSpan + 1, high - 1, high}
}

// TestP1AllArguments also shows P2: each call ends, none panics, and with an error there is no other result.
func TestP1AllArguments(t *testing.T) {
	checkZero(t, "nothing", question{})
	first := usualQuestion()
	if n := checkZero(t, "the usual question", first); n != 13 {
		t.Error("only", n, "functions answer", first.ask())
	}
	for i := range first.numbersOf() {
		for _, n := range hard() {
			q := usualQuestion()
			*q.numbersOf()[i] = n
			checkZero(t, fmt.Sprint("the number ", i, " is ", n), q)
		}
	}
	d := dice()
	for range 30000 {
		q := usualQuestion()
		all := q.numbersOf()
		for range pick(d, 2, 12) {
			*all[d.IntN(len(all))] = hard()[d.IntN(len(hard()))]
		}
		checkZero(t, "many numbers", q)
	}
	for _, n := range []int{0, 1, 2, 3, 4, 5, 6, 7, 19, 20, 21, 60, 61, 119, 120, 121, 5000} {
		q := usualQuestion()
		q.bushes, q.days, q.cut, q.proof = times(n, bush(10, 1, 100)), times(n, -1), times(n, 0), times(n, 1)
		checkZero(t, fmt.Sprint("lists of ", n), q)
		q.s.Beside = times(n, [2]int{0, 1})
		checkZero(t, fmt.Sprint("pairs: ", n), q)
		q.s.Stems = times(n, tree(3, 4))
		checkZero(t, fmt.Sprint("trees: ", n), q)
		q.o.Scenarios = times(n, scenario(1, 1, 2, 3))
		checkZero(t, fmt.Sprint("scenarios: ", n), q)
		q.o = outlook(2, scenario(1, times(n, 5)...), scenario(2, times(n, 6)...))
		checkZero(t, fmt.Sprint("days: ", n), q)
		q.o.Scenarios[1].Runs = times(n+1, 6)
		checkZero(t, fmt.Sprint("other days: ", n), q)
	}
}

// roomy returns a copy of a list with room behind it, so that what is written there is seen as well.
func roomy[T any](l []T) []T { return append(make([]T, 0, len(l)+30), l...) }

// shown returns a list with all of its room.
func shown[T any](l []T) []T { return l[:cap(l)] }

// lists returns a question whose lists were made by calls: those of numbers, and those of the others.
func (q question) lists(numbers func([]int) []int, scenarios func([]api.Scenario) []api.Scenario, bushes func([]api.SeasonBush) []api.SeasonBush, stems func([]api.Stem) []api.Stem, beside func([][2]int) [][2]int) question {
	q.o.Scenarios = scenarios(q.o.Scenarios)
	for i := range q.o.Scenarios {
		q.o.Scenarios[i].Runs = numbers(q.o.Scenarios[i].Runs)
	}
	q.proof, q.days, q.cut = numbers(q.proof), numbers(q.days), numbers(q.cut)
	q.bushes, q.s.Stems, q.s.Beside = bushes(q.bushes), stems(q.s.Stems), beside(q.s.Beside)
	return q
}

// copied returns a copy of a question that shares no memory with it, and full one whose lists show all of their room.
func (q question) copied() question {
	return q.lists(roomy[int], roomy[api.Scenario], roomy[api.SeasonBush], roomy[api.Stem], roomy[[2]int])
}

func (q question) full() question {
	q.o.Scenarios = slices.Clone(shown(q.o.Scenarios))
	same := func(l []api.Scenario) []api.Scenario { return l }
	return q.lists(shown[int], same, shown[api.SeasonBush], shown[api.Stem], shown[[2]int])
}

// someQuestions are those that are answered, those that are not, and those with nothing in their lists.
func someQuestions(d *rand.Rand) []question {
	bad, late, none := usualQuestion(), usualQuestion(), usualQuestion()
	bad.o.Scenarios[1].Runs[3], bad.s.Beside[0] = -1, [2]int{1, 1}
	late.day, late.proof[3], late.days[1], late.wood, late.cut = 4, 2, 1, -1, list(1, 1)
	none.o, none.proof, none.bushes, none.days, none.s, none.cut = api.Outlook{}, nil, nil, nil, api.Stand{}, nil
	questions := []question{usualQuestion(), bad, late, none}
	for range 500 {
		q := usualQuestion()
		days := pick(d, 2, 8)
		q.o, q.s = anyOutlook(d, days), anyStand(d, pick(d, 2, 8))
		q.proof, q.bushes = picks(d, days, 0, len(q.o.Scenarios)-1), anyBushes(d, pick(d, 0, 4), 3)
		q.days, q.wood = times(len(q.bushes), -1), pick(d, 0, 20)
		questions = append(questions, q)
	}
	return questions
}

// scribble writes into all lists of what was returned, and into the room behind them.
func scribble(results map[string][]any) {
	for _, name := range []string{"Gains", "Losses", "Least", "Beaten", "Plan", "Thin"} {
		l := results[name][0].([]int)
		for i := range shown(l) {
			shown(l)[i] = -7
		}
	}
}

// TestR4Memory shows that no argument is changed, neither by a call nor by what is written into a result.
func TestR4Memory(t *testing.T) {
	for _, q := range someQuestions(dice()) {
		given, kept := q.copied(), q.copied()
		results := given.ask()
		text := fmt.Sprint(results)
		if !reflect.DeepEqual(given.full(), kept.full()) {
			t.Fatal("an argument is changed:", given, kept)
		}
		scribble(results)
		if !reflect.DeepEqual(given.full(), kept.full()) {
			t.Fatal("a result shares memory with an argument:", given, kept)
		}
		if again := fmt.Sprint(given.ask()); again != text {
			t.Fatal("it is not the same again:", text, again)
		}
	}
}

// TestR4LaterChanges shows that a result stays as it is when the lists that were given change.
func TestR4LaterChanges(t *testing.T) {
	for _, q := range someQuestions(dice()) {
		given := q.copied()
		results := given.ask()
		text := fmt.Sprint(results)
		all := given.full()
		for _, n := range all.numbersOf() {
			*n = -7
		}
		if fmt.Sprint(results) != text {
			t.Fatal("a result changes with an argument:", text, results)
		}
	}
}

// TestR3NilAndEmpty asks with nil lists and with empty ones.
func TestR3NilAndEmpty(t *testing.T) {
	nils, empty := usualQuestion(), usualQuestion()
	nils.bushes, nils.days, nils.cut, nils.s.Beside = nil, nil, nil, nil
	empty.bushes, empty.days, empty.cut, empty.s.Beside = bushes(), list(), list(), [][2]int{}
	sameAnswers(t, "bushes, days, trees that are cut, pairs", nils, empty)
	nils.s.Stems, empty.s.Stems = nil, stems()
	nils.proof, empty.proof = nil, list()
	sameAnswers(t, "trees and proof", nils, empty)
	nils.o.Scenarios[0].Runs, empty.o.Scenarios[0].Runs = nil, list()
	nils.o.Scenarios[1].Runs, empty.o.Scenarios[1].Runs = nil, list()
	sameAnswers(t, "runs", nils, empty)
	nils.o.Scenarios, empty.o.Scenarios = nil, []api.Scenario{}
	sameAnswers(t, "scenarios", nils, empty)
}

// sameAnswers compares what is told for two questions.
func sameAnswers(t *testing.T, what string, a, b question) {
	t.Helper()
	if one, other := fmt.Sprint(a.ask()), fmt.Sprint(b.ask()); one != other {
		t.Errorf("%s: empty lists are not as nil ones: %s; %s", what, one, other)
	}
}

// TestP1AsMuchAsThereCanBe asks about as much as there can be; it ends soon.
func TestP1AsMuchAsThereCanBe(t *testing.T) {
	d := dice()
	q := usualQuestion()
	q.o, q.s = outlook(60), api.Stand{}
	for range 20 {
		q.o.Scenarios = append(q.o.Scenarios, scenario(pick(d, 1, 100), picks(d, 120, 0, 1000000)...))
		q.s.Stems = append(q.s.Stems, api.Stem{Wood: pick(d, 1, 1000000), Carbon: pick(d, 0, 1000000), Worth: pick(d, 0, 1000000)})
	}
	for i := range 60 {
		q.s.Beside = append(q.s.Beside, [2]int{i % 20, (i + 1 + i/20) % 20})
	}
	q.proof, q.bushes, q.days = times(120, 19), anyBushes(d, 6, 12), times(6, -1)
	q.wood, q.years, q.grow = 5000000, 100, part(1, 100)
	for range 20 {
		if n := checkZero(t, "as much as there can be", q); n != 13 {
			t.Fatal("only", n, "functions answer")
		}
	}
}
