package candy_test

import (
	"fmt"
	"math/rand/v2"
	"reflect"
	"slices"
	"testing"

	"spile/api"
	"spile/candy"
)

// question is all that the package can be asked about.
type question struct {
	r           api.CandyRules
	temperature api.Range
	s           api.Sap
	acts        []api.CandyAct
	x           api.CandyState
	orders      []api.CandyOrder
	sugar, work int
}

// answer is what a function returns: the number of an act that is told beside an error, the other results, and the error.
type answer struct {
	at      int
	results []any
	e       api.Errno
}

// one returns the first order of a question, or none.
func (q question) one() api.CandyOrder {
	if len(q.orders) == 0 {
		return api.CandyOrder{}
	}
	return q.orders[0]
}

// ask calls every function.
func (q question) ask() map[string]answer {
	told := map[string]answer{"Check": {e: candy.Check(q.r)}}
	dense, e := candy.Dense(q.r, q.temperature)
	told["Dense"] = answer{0, []any{dense}, e}
	crystals, e := candy.Crystals(q.r, q.s, q.temperature)
	told["Crystals"] = answer{0, []any{crystals}, e}
	behind, at, e := candy.Make(q.r, q.s, q.acts)
	told["Make"] = answer{at, []any{behind}, e}
	can, e := candy.Products(q.r, q.x)
	told["Products"] = answer{0, []any{can}, e}
	yield, e := candy.Yield(q.s, q.x)
	told["Yield"] = answer{0, []any{yield}, e}
	sugar, work, e := candy.Needs(q.r, q.one())
	told["Needs"] = answer{0, []any{sugar, work}, e}
	best, pay, e := candy.Best(q.r, q.orders, q.sugar, q.work)
	told["Best"] = answer{0, []any{best, pay}, e}
	return told
}

// usualQuestion asks about the chapter's examples, in a way that everything is answered.
func usualQuestion() question {
	return question{
		r: usual(), temperature: between(900, 1000), s: usualSap(), acts: acts(cook(1180, 1180), seed(50), cool(200, 250), stir(20, 20)),
		x: begun(between(8529, 8638), between(200, 250), just(20)), orders: three(100, 80, 50), sugar: 1830, work: 149,
	}
}

// setter returns what sets a number.
func setter[T ~int](p *T) func(int) { return func(n int) { *p = T(n) } }

// setters returns what sets each end of a range.
func setters(r *api.Range) []func(int) { return []func(int){setter(&r.Low), setter(&r.High)} }

// numbersOfRules returns what sets each number of rules.
func numbersOfRules(r *api.CandyRules) []func(int) {
	var l []func(int)
	for _, rows := range [][]api.Row{r.Elevation, r.Solubility} {
		for i := range rows {
			l = append(l, setter(&rows[i].X), setter(&rows[i].Y))
		}
	}
	for _, b := range rangesOf(r) {
		l = append(l, setters(b.r)...)
	}
	for _, b := range boundsOf(r) {
		l = append(l, setter(b.n))
	}
	return l
}

// numbersOf returns what sets each number of a question.
func (q *question) numbersOf() []func(int) {
	l := append(numbersOfRules(&q.r), setter(&q.s.Water), setter(&q.s.Sugar), setter(&q.sugar), setter(&q.work), setter(&q.x.Seed))
	for _, r := range []*api.Range{&q.temperature, &q.x.Dense, &q.x.Heat, &q.x.Start, &q.x.Stirred} {
		l = append(l, setters(r)...)
	}
	for i := range q.acts {
		a := &q.acts[i]
		l = append(l, setter(&a.Kind), setter(&a.Mass))
		l = append(l, setters(&a.Range)...)
	}
	for i := range q.orders {
		o := &q.orders[i]
		l = append(l, setter(&o.Product), setter(&o.Mass), setter(&o.Price))
	}
	return l
}

// check compares what is told with the definitions, reports results beside an error, and returns how many functions answered without one.
func check(t *testing.T, what string, q question) int {
	t.Helper()
	answers := 0
	for name, a := range q.ask() {
		if a.e == api.OK {
			answers++
		}
		if a.e == api.OK && a.at != 0 || a.e != api.OK && slices.ContainsFunc(a.results, func(v any) bool { return !reflect.ValueOf(v).IsZero() }) {
			t.Fatal(what, name, a, q)
		}
	}
	sameErr(t, what, candy.Check(q.r), checkOf(q.r))
	dense, e := denseOf(q.r, q.temperature)
	sameDense(t, q.r, q.temperature, dense, e)
	crystals, e := crystalsOf(q.r, q.s, q.temperature)
	sameCrystals(t, q.r, q.s, q.temperature, crystals, e)
	behind, at, e := makeOf(q.r, q.s, q.acts)
	sameMake(t, q.r, q.s, q.acts, behind, at, e)
	can, e := productsOf(q.r, q.x, ends)
	sameProducts(t, q.r, q.x, can, e)
	yield, e := yieldOf(q.s, q.x)
	sameYield(t, q.s, q.x, yield, e)
	sugar, work, e := needsOf(q.r, q.one())
	sameNeeds(t, q.r, q.one(), sugar, work, e)
	best, pay, e := bestOf(q.r, q.orders, q.sugar, q.work)
	sameBest(t, q.r, q.orders, q.sugar, q.work, best, pay, e)
	return answers
}

// hard are numbers at the limits, and beyond them.
func hard() []int {
	far := 1000000000000000
	return []int{low, low + 1, -far - 1, -far, -1000000, -10001, -2001, -2000, -1999, -2, -1, 0, 1, 2, 3, 4, 5, 8, 14, 20, 60, 300, 999, 1000, 1001, 1295, 1296, 1999, 2000, 2001, 8600, 9600, 9999, 10000, 10001, 99999, 100000, 100001, 999999, 1000000, 1000001, 1000000000, 1000000001, 1000000000000, 1000000000001, far, far + 1, high - 1, high}
}

// TestP1AllArguments also shows P2: each call ends, none panics, and with an error there is no other result.
func TestP1AllArguments(t *testing.T) {
	check(t, "nothing", question{})
	first := usualQuestion()
	if n := check(t, "the usual question", first); n != 8 {
		t.Error("only", n, "functions answer", first.ask())
	}
	for i := range first.numbersOf() {
		for _, n := range hard() {
			q := usualQuestion()
			q.numbersOf()[i](n)
			check(t, fmt.Sprint("the number ", i, " is ", n), q)
			q.x.Begun = false
			check(t, fmt.Sprint("before stirring, the number ", i, " is ", n), q)
		}
	}
	d := dice()
	for range 10000 {
		q := usualQuestion()
		all := q.numbersOf()
		for range pick(d, 2, 6) {
			all[d.IntN(len(all))](hard()[d.IntN(len(hard()))])
		}
		check(t, "many numbers", q)
	}
}

// TestP1AllLengths asks with lists of all lengths, alone and together.
func TestP1AllLengths(t *testing.T) {
	for _, n := range []int{0, 1, 2, 7, 8, 9, 13, 14, 15, 29, 30, 31, 59, 60, 61, 100, 5000} {
		for _, change := range []func(q *question){
			func(q *question) { q.r.Elevation = rowsUp(n, 5, 5) },
			func(q *question) { q.r.Solubility = rowsUp(n, 890, 6000) },
			func(q *question) { q.r.Products = times(n, usual().Products[0]) },
			func(q *question) { q.acts = times(n, seed(1)) },
			func(q *question) { q.acts = append(times(n, stir(1, 1)), cook(1, 1)) },
			func(q *question) { q.orders = times(n, order(0, 10, 5)) },
		} {
			q := usualQuestion()
			change(&q)
			check(t, fmt.Sprint("a list of ", n), q)
		}
		q := usualQuestion()
		q.r.Elevation, q.r.Solubility, q.r.Products = rowsUp(n, 5, 5), rowsUp(n, 890, 6000), times(n, usual().Products[0])
		q.acts, q.orders = times(n, seed(1)), times(n, order(0, 10, 5))
		check(t, fmt.Sprint("lists of ", n), q)
	}
}

// roomy returns a copy of a list with room behind it, so that what is written there is seen as well.
func roomy[T any](l []T) []T { return append(make([]T, 0, len(l)+30), l...) }

// shown returns a list with all of its room.
func shown[T any](l []T) []T { return l[:cap(l)] }

// copied returns a copy of a question that shares no memory with it, and full one whose lists show all of their room.
func (q question) copied() question {
	q.r.Elevation, q.r.Solubility, q.r.Products, q.acts, q.orders = roomy(q.r.Elevation), roomy(q.r.Solubility), roomy(q.r.Products), roomy(q.acts), roomy(q.orders)
	return q
}

func (q question) full() question {
	q.r.Elevation, q.r.Solubility, q.r.Products, q.acts, q.orders = shown(q.r.Elevation), shown(q.r.Solubility), shown(q.r.Products), shown(q.acts), shown(q.orders)
	return q
}

// anyQuestion returns a question among small numbers, most of which is answered.
func anyQuestion(d *rand.Rand) question {
	r := smallRules(d)
	last := r.Solubility[len(r.Solubility)-1].X
	q := question{r: r, temperature: anyRange(d, r.Solubility[0].X, last), s: smallSap(d), x: anyState(d), orders: anyOrders(d, r, pick(d, 0, 9)), sugar: pick(d, 0, 50), work: pick(d, 0, 500)}
	for range pick(d, 0, 9) {
		q.acts = append(q.acts, oneAct(d))
	}
	q.x.Dense.Low, q.x.Dense.High = max(1, q.x.Dense.Low), max(1, q.x.Dense.High)
	return q
}

// someQuestions are those that are answered, those that are not, and those with nothing in their lists.
func someQuestions(d *rand.Rand) []question {
	bad, late := usualQuestion(), usualQuestion()
	bad.r.Products[2].Seed, bad.acts[3].Mass, bad.orders[2].Mass = -1, 1, 0
	late.acts[3].Mass, late.orders[2].Mass, late.x.Begun = 1, 0, false
	questions := []question{usualQuestion(), bad, late, {}}
	for range 1000 {
		questions = append(questions, anyQuestion(d))
	}
	return questions
}

// scribble writes into all lists of what was returned, and into the room behind them.
func scribble(told map[string]answer) {
	for i := range shown(told["Make"].results[0].([]api.CandyState)) {
		shown(told["Make"].results[0].([]api.CandyState))[i] = seeded(standing(just(-7), just(-7)), -7)
	}
	for _, l := range [][]int{told["Products"].results[0].([]int), told["Best"].results[0].([]int)} {
		for i := range shown(l) {
			shown(l)[i] = -7
		}
	}
}

// TestR4Memory shows that no argument is changed, neither by a call nor by what is written into a result.
func TestR4Memory(t *testing.T) {
	answers := map[string]int{}
	for _, q := range someQuestions(dice()) {
		given, kept := q.copied(), q.copied()
		told := given.ask()
		text := fmt.Sprint(told)
		if !reflect.DeepEqual(given.full(), kept.full()) {
			t.Fatal("an argument is changed:", given, kept)
		}
		scribble(told)
		if !reflect.DeepEqual(given.full(), kept.full()) {
			t.Fatal("a result shares memory with an argument:", given, kept)
		}
		if again := fmt.Sprint(given.ask()); again != text {
			t.Fatal("it is not the same again:", text, again)
		}
		for name, a := range told {
			if a.e == api.OK {
				answers[name]++
			}
		}
	}
	for name := range usualQuestion().ask() {
		if answers[name] < 50 {
			t.Error("too few answers of", name, answers)
		}
	}
}

// TestR4LaterChanges shows that a result stays as it is when the lists that were given change.
func TestR4LaterChanges(t *testing.T) {
	for _, q := range someQuestions(dice()) {
		given := q.copied()
		told := given.ask()
		text := fmt.Sprint(told)
		all := given.full()
		for _, set := range all.numbersOf() {
			set(-7)
		}
		if fmt.Sprint(told) != text {
			t.Fatal("a result changes with an argument:", text, told)
		}
	}
}

// TestR3NilAndEmpty asks with nil lists and with empty ones.
func TestR3NilAndEmpty(t *testing.T) {
	nils, empty := usualQuestion(), usualQuestion()
	nils.acts, nils.orders, empty.acts, empty.orders = nil, nil, acts(), orders()
	sameAnswers(t, "acts, orders", nils, empty)
	nils.r.Products, empty.r.Products = nil, products()
	sameAnswers(t, "products", nils, empty)
	nils, empty = usualQuestion(), usualQuestion()
	nils.r.Elevation, empty.r.Elevation = nil, []api.Row{}
	sameAnswers(t, "elevation", nils, empty)
	nils, empty = usualQuestion(), usualQuestion()
	nils.r.Solubility, empty.r.Solubility = nil, []api.Row{}
	sameAnswers(t, "solubility", nils, empty)
}

// sameAnswers compares what is told for two questions.
func sameAnswers(t *testing.T, what string, a, b question) {
	t.Helper()
	if one, other := fmt.Sprint(a.ask()), fmt.Sprint(b.ask()); one != other {
		t.Errorf("%s: empty lists are not as nil ones: %s; %s", what, one, other)
	}
}

// TestP1AsMuchAsThereCanBe asks about as much as there can be; it ends soon.
func TestP1AsMuchAsThereCanBe(t *testing.T) {
	d := dice()
	for range 20 {
		q := usualQuestion()
		xs, ys := ascending(d, 60, 0, 10000), ascending(d, 60, 0, 2000)
		q.r.Elevation, q.r.Solubility, q.r.Products = nil, nil, nil
		for i, x := range ascending(d, 60, -2000, 2000) {
			q.r.Elevation = append(q.r.Elevation, api.Row{X: xs[i], Y: ys[i]})
			q.r.Solubility = append(q.r.Solubility, api.Row{X: x, Y: pick(d, 0, 9999)})
		}
		for range 8 {
			q.r.Products = append(q.r.Products, more(product(anyRange(d, 1, 10000), anyRange(d, -2000, 2000), anyRange(d, 0, 1000)), pick(d, 0, 1000000), pick(d, 0, 100000)))
		}
		q.temperature = between(max(-2000, q.r.Solubility[0].X), min(q.r.Solubility[59].X, q.r.Base.Low+ys[59]))
		q.s = sap(pick(d, 1, 1000000000000), pick(d, 1, 1000000000000))
		q.acts = append(acts(cook(900, 1000)), times(29, stir(0, 34))...)
		q.x = seeded(begun(between(1, 10000), between(-2000, 2000), between(0, 1000)), 1000000)
		q.orders = nil
		for range 14 {
			q.orders = append(q.orders, order(d.IntN(8), pick(d, 1, 1000000000), pick(d, 0, 1000000000)))
		}
		q.sugar, q.work = pick(d, 0, 14000000000), pick(d, 0, 1400000000000)
		if n := check(t, "as much as there can be", q); n != 8 {
			t.Fatal("only", n, "functions answer", q.ask())
		}
	}
}
