package pool_test

import (
	"fmt"
	"math/rand/v2"
	"reflect"
	"slices"
	"testing"

	"spile/api"
	"spile/pool"
)

// question is all that the package can be asked about.
type question struct {
	n, revenue int
	weights    []int
	r          api.PoolRules
	p          api.Practice
	l          []api.Member
	leases     []api.Lease
	given      []api.Delivery
	seasons    []api.PoolSeason
}

// answer is what a function returns: numbers of things that are told beside an error, the other results, and the error.
type answer struct {
	at      []int
	results []any
	e       api.Errno
}

// ask calls every function.
func (q question) ask() map[string]answer {
	told := map[string]answer{
		"CheckPool":    {e: pool.CheckPool(q.r)},
		"CheckMembers": {e: pool.CheckMembers(q.l)},
	}
	portions, e := pool.Portions(q.n, q.weights)
	told["Portions"] = answer{nil, []any{portions}, e}
	rule, e := pool.Practice(q.r.Organic, q.p)
	told["Practice"] = answer{nil, []any{rule}, e}
	l, at, e := pool.Leased(q.l, q.leases)
	told["Leased"] = answer{list(at), []any{l}, e}
	accounts, at, e := pool.Accept(q.r, q.l, q.given)
	told["Accept"] = answer{list(at), []any{accounts}, e}
	accounts, b, at, e := pool.Settle(q.r, q.l, q.given, q.revenue)
	told["Settle"] = answer{list(at), []any{accounts, b}, e}
	years, books, year, at, e := pool.Years(q.r, q.l, q.seasons)
	told["Years"] = answer{list(year, at), []any{years, books}, e}
	return told
}

// usualQuestion asks about the chapter's examples, where the members have given some quota to each other.
func usualQuestion() question {
	return question{
		n: 10, revenue: 84000, weights: list(1, 1, 1), r: usual(), p: kept(), l: usualMembers(),
		leases: leases(lease(0, 1, 100), lease(1, 0, 50)), given: usualDeliveries(),
		seasons: seasons(season(100000, 84000, usualDeliveries()...), season(9, 10, plain(1, 2, 30))),
	}
}

// practiceNumbers and the next one return where the numbers of things are.
func practiceNumbers(p *api.Practice) []*int {
	return []*int{&p.Trees, &p.Taps, &p.Others, &p.Oils, &p.Cleaners}
}

func deliveryNumbers(l []api.Delivery) []*int {
	var numbers []*int
	for i := range l {
		numbers = append(numbers, &l[i].Member, &l[i].Grade, &l[i].Mass)
		numbers = append(numbers, practiceNumbers(&l[i].Practice)...)
	}
	return numbers
}

// numbersOf returns where all numbers of a question are.
func (q *question) numbersOf() []*int {
	o := &q.r.Organic
	numbers := []*int{&q.n, &q.revenue, &q.r.Premium, &q.r.Released, &q.r.Demand, &q.r.Levy, &q.r.Reserve, &q.r.Advance, &o.Taps, &o.Others, &o.Oils, &o.Cleaners}
	numbers = append(numbers, practiceNumbers(&q.p)...)
	for _, l := range [][]int{q.weights, q.r.Prices} {
		for i := range l {
			numbers = append(numbers, &l[i])
		}
	}
	for i := range q.l {
		numbers = append(numbers, &q.l[i].Quota, &q.l[i].Stored)
	}
	for i := range q.leases {
		numbers = append(numbers, &q.leases[i].From, &q.leases[i].To, &q.leases[i].Mass)
	}
	numbers = append(numbers, deliveryNumbers(q.given)...)
	for i := range q.seasons {
		numbers = append(numbers, &q.seasons[i].Demand, &q.seasons[i].Revenue)
		numbers = append(numbers, deliveryNumbers(q.seasons[i].Deliveries)...)
	}
	return numbers
}

// check compares what is told with the definitions, reports results beside an error, and returns how many functions answered without one.
func check(t *testing.T, what string, q question) int {
	t.Helper()
	answers := 0
	for name, a := range q.ask() {
		if a.e == api.OK {
			answers++
			if slices.ContainsFunc(a.at, func(n int) bool { return n != 0 }) {
				t.Fatal(what, name, "without an error:", a, q)
			}
			continue
		}
		if slices.ContainsFunc(a.results, func(v any) bool { return !reflect.ValueOf(v).IsZero() }) {
			t.Fatal(what, name, a, q)
		}
	}
	l, at, e := leasedOf(q.l, q.leases)
	sameLeased(t, q.l, q.leases, l, at, e)
	told, at, e := acceptOf(q.r, q.l, q.given)
	sameAccept(t, q.r, q.l, q.given, told, at, e)
	told, b, at, e := settleOf(q.r, q.l, q.given, q.revenue)
	sameSettle(t, q.r, q.l, q.given, q.revenue, told, b, at, e)
	years, beside, e := yearsOf(q.r, q.l, q.seasons)
	sameYears(t, q.r, q.l, q.seasons, years, beside, e)
	return answers
}

// hard are numbers at the limits, and beyond them.
func hard() []int {
	return []int{low, low + 1, -api.MaxPortion, -1000000, -10000, -101, -2, -1, 0, 1, 2, 3, 4, 20, 21, 30, 31, 99, 100, 101, 255, 256, 9999, 10000, 10001, 49999, 50000, 50001, 999999, 1000000, 1000001, 99999999, 100000000, 100000001, 10000000000, 10000000001, 1000000000000, 1000000000001, api.MaxPortion, api.MaxPortion + 1, high - 1, high}
}

// TestP1AllArguments also shows P2: each call ends, none panics, and with an error there is no other result.
func TestP1AllArguments(t *testing.T) {
	check(t, "nothing", question{})
	first := usualQuestion()
	if n := check(t, "the usual question", first); n != 8 {
		t.Error("only", n, "functions answer", first.ask())
	}
	for i := range first.numbersOf() {
		for _, n := range hard() {
			q := usualQuestion()
			*q.numbersOf()[i] = n
			check(t, fmt.Sprint("the number ", i, " is ", n), q)
		}
	}
	d := dice()
	for range 10000 {
		q := usualQuestion()
		all := q.numbersOf()
		for range pick(d, 2, 6) {
			*all[d.IntN(len(all))] = hard()[d.IntN(len(hard()))]
		}
		check(t, "many numbers", q)
	}
}

// TestP1AllLengths asks with lists of all lengths, alone and together.
func TestP1AllLengths(t *testing.T) {
	for _, n := range []int{0, 1, 2, 8, 9, 10, 11, 29, 30, 31, 100, 101, 299, 300, 301, 5000} {
		for _, change := range []func(q *question){
			func(q *question) { q.weights = times(n, 1) },
			func(q *question) { q.r.Prices = times(n, 5) },
			func(q *question) { q.l = times(n, organic(5000, 10)) },
			func(q *question) { q.leases = times(n, lease(0, 1, 1)) },
			func(q *question) { q.given = times(n, green(1, 0, 7)) },
			func(q *question) { q.seasons = times(n, season(n, n, plain(0, 0, 9))) },
			func(q *question) { q.seasons[1].Deliveries = times(n, green(1, 0, 7)) },
		} {
			q := usualQuestion()
			change(&q)
			check(t, fmt.Sprint("a list of ", n), q)
		}
		q := usualQuestion()
		q.r.Prices, q.l, q.leases, q.given = times(n, 5), times(n, organic(5000, 10)), times(n, lease(0, 1, 1)), times(n, green(1, 0, 7))
		q.weights, q.seasons = times(n, 0), times(n, season(n, n, q.given...))
		check(t, fmt.Sprint("lists of ", n), q)
	}
}

// roomy returns a copy of a list with room behind it, so that what is written there is seen as well.
func roomy[T any](l []T) []T { return append(make([]T, 0, len(l)+30), l...) }

// shown returns a list with all of its room.
func shown[T any](l []T) []T { return l[:cap(l)] }

// copied returns a copy of a question that shares no memory with it, and full one whose lists show all of their room.
func (q question) copied() question {
	q.weights, q.r.Prices, q.l, q.leases, q.given = roomy(q.weights), roomy(q.r.Prices), roomy(q.l), roomy(q.leases), roomy(q.given)
	q.seasons = roomy(q.seasons)
	for i := range q.seasons {
		q.seasons[i].Deliveries = roomy(q.seasons[i].Deliveries)
	}
	return q
}

func (q question) full() question {
	q.weights, q.r.Prices, q.l, q.leases, q.given = shown(q.weights), shown(q.r.Prices), shown(q.l), shown(q.leases), shown(q.given)
	q.seasons = slices.Clone(shown(q.seasons))
	for i := range q.seasons {
		q.seasons[i].Deliveries = shown(q.seasons[i].Deliveries)
	}
	return q
}

// someQuestions are those that are answered, those that are not, and those with nothing in their lists.
func someQuestions(d *rand.Rand) []question {
	bad, late, none := usualQuestion(), usualQuestion(), usualQuestion()
	bad.r.Prices[2], bad.weights[2] = -1, -1
	late.leases[1].Mass, late.given[2].Mass, late.seasons[1].Revenue, late.n = 0, 0, -1, -1
	none.weights, none.r, none.l, none.leases, none.given, none.seasons = nil, api.PoolRules{}, nil, nil, nil, nil
	questions := []question{usualQuestion(), bad, late, none}
	for range 500 {
		q := usualQuestion()
		q.r, q.l, q.given = anySeason(d)
		q.leases = anyLeases(q.l, func(a, b int) int { return pick(d, a, b) })
		q.weights = picks(d, pick(d, 1, 9), 1, 9)
		q.seasons = seasons(season(q.r.Demand, 500, q.given...), season(5, 7, q.given...))
		questions = append(questions, q)
	}
	return questions
}

// scribble writes into all lists of what was returned, and into the room behind them.
func scribble(told map[string]answer) {
	for i := range shown(told["Portions"].results[0].([]int)) {
		shown(told["Portions"].results[0].([]int))[i] = -7
	}
	for i := range shown(told["Leased"].results[0].([]api.Member)) {
		shown(told["Leased"].results[0].([]api.Member))[i] = member(-7, -7)
	}
	lists := slices.Clone(told["Years"].results[0].([][]api.PoolAccount))
	for _, l := range append(lists, told["Accept"].results[0].([]api.PoolAccount), told["Settle"].results[0].([]api.PoolAccount)) {
		for i := range shown(l) {
			shown(l)[i] = account(-7, -7, -7, -7, -7, -7)
		}
	}
	for i := range shown(told["Years"].results[1].([]api.PoolBook)) {
		shown(told["Years"].results[1].([]api.PoolBook))[i] = book(-7, -7, -7, -7, -7, -7)
	}
}

// TestR4Memory shows that no argument is changed, neither by a call nor by what is written into a result.
func TestR4Memory(t *testing.T) {
	for _, q := range someQuestions(dice()) {
		given, kept := q.copied(), q.copied()
		told := given.ask()
		text := fmt.Sprint(told)
		if !reflect.DeepEqual(given.full(), kept.full()) {
			t.Fatal("an argument is changed:", given, kept)
		}
		scribble(told)
		if !reflect.DeepEqual(given.full(), kept.full()) {
			t.Fatal("a result shares memory with an argument:", given, kept)
		}
		if again := fmt.Sprint(given.ask()); again != text {
			t.Fatal("it is not the same again:", text, again)
		}
	}
}

// TestR4YearsApart shows that the accounts of a year share no memory with those of another one.
func TestR4YearsApart(t *testing.T) {
	years, _, _, _, e := pool.Years(usual(), usualMembers(), times(3, season(9, 10, usualDeliveries()...)))
	if e != api.OK || len(years) != 3 {
		t.Fatal("Years", years, e)
	}
	kept := slices.Clone(years[1])
	for _, l := range [][]api.PoolAccount{years[0], years[2]} {
		for i := range shown(l) {
			shown(l)[i] = account(-7, -7, -7, -7, -7, -7)
		}
	}
	if !slices.Equal(years[1], kept) {
		t.Error("years share memory:", years[1], kept)
	}
}

// TestR4LaterChanges shows that a result stays as it is when the lists that were given change.
func TestR4LaterChanges(t *testing.T) {
	for _, q := range someQuestions(dice()) {
		given := q.copied()
		told := given.ask()
		text := fmt.Sprint(told)
		all := given.full()
		for _, n := range all.numbersOf() {
			*n = -7
		}
		if fmt.Sprint(told) != text {
			t.Fatal("a result changes with an argument:", text, told)
		}
	}
}

// TestR3NilAndEmpty asks with nil lists and with empty ones.
func TestR3NilAndEmpty(t *testing.T) {
	nils, empty := usualQuestion(), usualQuestion()
	nils.leases, nils.given, nils.weights, nils.seasons[1].Deliveries = nil, nil, nil, nil
	empty.leases, empty.given, empty.weights, empty.seasons[1].Deliveries = leases(), deliveries(), list(), deliveries()
	sameAnswers(t, "leases, deliveries, weights", nils, empty)
	nils.seasons, empty.seasons = nil, seasons()
	sameAnswers(t, "seasons", nils, empty)
	nils.l, empty.l = nil, members()
	sameAnswers(t, "members", nils, empty)
	nils.r.Prices, empty.r.Prices = nil, list()
	sameAnswers(t, "prices", nils, empty)
}

// sameAnswers compares what is told for two questions.
func sameAnswers(t *testing.T, what string, a, b question) {
	t.Helper()
	if one, other := fmt.Sprint(a.ask()), fmt.Sprint(b.ask()); one != other {
		t.Errorf("%s: empty lists are not as nil ones: %s; %s", what, one, other)
	}
}

// TestP1AsMuchAsThereCanBe asks about as much as there can be; it ends soon.
func TestP1AsMuchAsThereCanBe(t *testing.T) {
	d := dice()
	for range 20 {
		q := usualQuestion()
		q.r.Prices = picks(d, 8, 0, 1000000)
		q.n, q.weights = api.MaxPortion, picks(d, 100, 0, api.MaxPortion)
		q.l, q.leases = anyMembers(d, 30, 50000000), nil
		for i := range q.l {
			q.l[i].Quota++
			q.leases = append(q.leases, lease(i, (i+1)%30, 1))
		}
		q.given = anyDeliveries(d, q.r, 30, 300, 300000)
		q.seasons = times(10, season(100000000, 1000000000000, q.given...))
		if n := check(t, "as much as there can be", q); n != 8 {
			t.Fatal("only", n, "functions answer", q.ask())
		}
	}
}
