package pan_test

import (
	"fmt"
	"math/rand/v2"
	"reflect"
	"slices"
	"testing"

	"spile/api"
	"spile/pan"
)

// question is all that the package can be asked about.
type question struct {
	b          api.Boil
	unlit      api.Boil
	start      []api.Range
	pan        int
	c          api.PanCourse
	p          api.Pan
	fire       int
	single     api.Range
	pans       []api.Sap
	feed       api.Sap
	l          [][]api.PanMinute
	whole      int
	mass, brix api.Range
}

// ask calls every function, and returns the results of each as a list that ends with the error. What the chapter says of at beside an error comes first.
func (q question) ask() map[string][]any {
	told := map[string][]any{"Check": {pan.Check(q.b)}}
	levels, at, e := pan.Levels(q.b, q.start)
	told["Levels"], told["at of Levels"] = []any{levels, e}, []any{at, api.OK}
	masses, at, e := pan.Trace(q.b, q.start, q.pan, q.c)
	told["Trace"], told["at of Trace"] = []any{masses, e}, []any{at, api.OK}
	number, minute, c, e := pan.Dry(q.b, q.start)
	told["Dry"] = []any{number, minute, c, e}
	hottest, e := pan.Hottest(q.unlit, q.start)
	told["Hottest"] = []any{hottest, e}
	steady, e := pan.Steady(q.p, q.fire, q.single)
	told["Steady"] = []any{steady, e}
	end, left, drawn, steam, e := pan.Follow(q.b, q.pans, q.feed, q.l)
	told["Follow"] = []any{end, left, drawn, steam, e}
	wood, e := pan.Wood(q.b, q.whole)
	told["Wood"] = []any{wood, e}
	water, sugar, e := pan.Content(q.mass, q.brix)
	told["Content"] = []any{water, sugar, e}
	return told
}

// usualQuestion asks about two of the chapter's pans, one of which can run dry.
func usualQuestion() question {
	acts := []api.PanAct{shut(0, 1), draw(1, 0, 40), move(1, 0, 60), fire(2, 50), open(2, 1)}
	unlit := slices.Delete(slices.Clone(acts), 3, 4)
	return question{
		b:     boilOf(times(2, usual()), 3, acts...),
		unlit: boilOf(times(2, usual()), 3, unlit...),
		start: set(r(990, 1010), r(830, 850)),
		pan:   0, c: course(1000, 7, 0, 60, 0, 70, 20),
		p: usual(), fire: 80, single: one(1000),
		pans: saps(s(970, 30), s(800, 40)), feed: s(980, 20),
		l:     each(minutes(7, 0, 60, 0, 70, 20), minutes(0, 0, 0, 0, 60, 20)),
		whole: 100, mass: r(1000, 1100), brix: r(6600, 6700),
	}
}

// numbersOf returns where all numbers of a question are.
func (q *question) numbersOf() []*int {
	numbers := []*int{&q.b.Minutes, &q.unlit.Minutes, &q.pan, &q.c.Start, &q.fire, &q.feed.Water, &q.feed.Sugar, &q.whole}
	ofPan := func(p *api.Pan) {
		numbers = append(numbers, &p.Low, &p.High, &p.Least, &p.Most, &p.Cool, &p.Hot, &p.Dry, &p.Rim)
	}
	ofMinutes := func(l []api.PanMinute) {
		for i := range l {
			numbers = append(numbers, &l[i].In, &l[i].Off)
		}
	}
	ofPan(&q.p)
	for _, b := range []*api.Boil{&q.b, &q.unlit} {
		for i := range b.Pans {
			ofPan(&b.Pans[i])
		}
		for i := range b.Acts {
			numbers = append(numbers, &b.Acts[i].Minute, (*int)(&b.Acts[i].Kind), &b.Acts[i].Pan, &b.Acts[i].Amount)
		}
	}
	ofMinutes(q.c.Minutes)
	for _, l := range q.l {
		ofMinutes(l)
	}
	for i := range q.start {
		numbers = append(numbers, &q.start[i].Low, &q.start[i].High)
	}
	for i := range q.pans {
		numbers = append(numbers, &q.pans[i].Water, &q.pans[i].Sugar)
	}
	for _, a := range []*api.Range{&q.single, &q.mass, &q.brix} {
		numbers = append(numbers, &a.Low, &a.High)
	}
	return numbers
}

// checkZero reports results beside an error, and returns how many functions answered without one.
func checkZero(t *testing.T, what string, q question) int {
	t.Helper()
	answers := 0
	for name, results := range q.ask() {
		last := len(results) - 1
		if results[last].(api.Errno) == api.OK {
			answers++
			continue
		}
		if slices.ContainsFunc(results[:last], func(v any) bool { return !reflect.ValueOf(v).IsZero() }) {
			t.Fatal(what, name, results, q)
		}
	}
	return answers
}

// hard are numbers at the limits, and beyond them.
func hard() []int {
	return []int{low, low + 1, -api.MaxSpan - 1, -1000001, -1, 0, 1, 2, 3, 4, 5, 6, 7, 40, 50, 60, 61, 99, 100, 101, 299, 300, 301, 799, 800, 801, 999, 1000, 1001, 2000, 2001, 3000, 3001, 9999, 10000, 10001, 100000, 100001, 1000000, 1000001, ton, ton + 1, api.MaxSpan, api.MaxSpan + 1, high - 1, high}
}

// TestP1AllArguments also shows P2: each call ends, none panics, and with an error there is no other result.
func TestP1AllArguments(t *testing.T) {
	checkZero(t, "nothing", question{})
	first := usualQuestion()
	// Dry has no error just if a pan can run dry, Hottest just if none can.
	first.start[1] = r(700, 850)
	first.unlit.Pans[1].Dry = 0
	if n := checkZero(t, "the usual question", first); n != 11 {
		t.Error("only", n, "functions answer", first.ask())
	}
	for i := range first.numbersOf() {
		for _, n := range hard() {
			q := usualQuestion()
			*q.numbersOf()[i] = n
			checkZero(t, fmt.Sprint("the number ", i, " is ", n), q)
		}
	}
	d := dice()
	for range 20000 {
		q := usualQuestion()
		all := q.numbersOf()
		for range pick(d, 2, 12) {
			*all[d.IntN(len(all))] = hard()[d.IntN(len(hard()))]
		}
		checkZero(t, "many numbers", q)
	}
	for _, n := range []int{0, 1, 2, 3, 6, 7, 59, 60, 61, 299, 300, 301, 100000} {
		q := usualQuestion()
		q.start, q.pans, q.l = times(n, one(1000)), times(n, s(970, 30)), times(n, minutes(0, 0))
		checkZero(t, fmt.Sprint("lists of ", n), q)
		q.b.Pans, q.unlit.Pans, q.b.Minutes = times(n, usual()), times(n, usual()), 1
		checkZero(t, fmt.Sprint("pans ", n), q)
		q.b.Acts, q.unlit.Acts = times(n, fire(0, 1)), times(n, shut(0, 0))
		checkZero(t, fmt.Sprint("pans and acts ", n), q)
		q = usualQuestion()
		q.b.Acts, q.c.Minutes, q.l[1] = times(n, shut(0, 0)), times(n, api.PanMinute{}), times(n, api.PanMinute{})
		checkZero(t, fmt.Sprint("acts and minutes ", n), q)
	}
}

// TestP1AnyBoils asks about boils that are valid, with courses and sap that are and that are not.
func TestP1AnyBoils(t *testing.T) {
	for _, q := range someQuestions(dice()) {
		checkZero(t, "some", q)
	}
}

// roomy returns a copy of a list with room behind it, so that what is written there is seen as well.
func roomy[T any](l []T) []T { return append(make([]T, 0, len(l)+10), l...) }

// copied returns a copy of a question that shares no memory with it.
func (q question) copied() question {
	for _, b := range []*api.Boil{&q.b, &q.unlit} {
		b.Pans, b.Acts = roomy(b.Pans), roomy(b.Acts)
	}
	q.start, q.c.Minutes, q.pans, q.l = roomy(q.start), roomy(q.c.Minutes), roomy(q.pans), roomy(q.l)
	for i := range q.l {
		q.l[i] = roomy(q.l[i])
	}
	return q
}

// full returns a question whose lists show all of their room.
func (q question) full() question {
	for _, b := range []*api.Boil{&q.b, &q.unlit} {
		b.Pans, b.Acts = b.Pans[:cap(b.Pans)], b.Acts[:cap(b.Acts)]
	}
	q.start, q.c.Minutes, q.pans = q.start[:cap(q.start)], q.c.Minutes[:cap(q.c.Minutes)], q.pans[:cap(q.pans)]
	q.l = slices.Clone(q.l[:cap(q.l)])
	for i, l := range q.l {
		q.l[i] = l[:cap(l)]
	}
	return q
}

// someQuestions are those that are answered, those that are not, and those with nothing in their lists.
func someQuestions(d *rand.Rand) []question {
	bad, late, none := usualQuestion(), usualQuestion(), usualQuestion()
	bad.b.Acts[4].Amount, bad.unlit.Pans[1].Rim, bad.pans[1].Sugar = 1, 0, -1
	late.b.Acts[2].Amount, late.unlit.Acts[2].Amount, late.c.Minutes[2].Off, late.l[1][2].Off = 991, 991, 61, 61
	none.b, none.unlit, none.start, none.c.Minutes, none.pans, none.l = boil(0), boil(0), nil, nil, nil, nil
	questions := []question{usualQuestion(), bad, late, none}
	for range 500 {
		k := anyKnown(d)
		q := question{b: k.b, unlit: k.b, start: anyStart(d, k.b.Pans), pan: d.IntN(len(k.b.Pans)), p: k.b.Pans[0], fire: pick(d, 0, 100), pans: k.pans, feed: k.feed, l: k.l, whole: pick(d, 0, 10000), mass: pickRange(d, 0, 9999), brix: pickRange(d, 0, 10000)}
		q.unlit.Acts = slices.DeleteFunc(slices.Clone(k.b.Acts), func(a api.PanAct) bool { return a.Kind == api.PanFire })
		q.single = pickRange(d, 0, q.p.Rim)
		if all := newTruths(q.b, q.start, 0); all.e == api.OK {
			q.c = anyCourse(d, all, q.pan)
		}
		questions = append(questions, q)
	}
	return questions
}

// scribble writes into all lists of what was returned, and into the room behind them.
func scribble(results map[string][]any) {
	if l, ok := results["Levels"][0].([][]api.Range); ok {
		for _, now := range l {
			for i := range now[:cap(now)] {
				now[:cap(now)][i] = r(-7, -7)
			}
		}
		clear(l[:cap(l)])
	}
	if l, ok := results["Trace"][0].([]int); ok {
		clear(l[:cap(l)])
	}
	if c, ok := results["Dry"][2].(api.PanCourse); ok {
		clear(c.Minutes[:cap(c.Minutes)])
	}
	if l, ok := results["Follow"][0].([]api.Sap); ok {
		for i := range l[:cap(l)] {
			l[:cap(l)][i] = s(-7, -7)
		}
	}
}

// TestR4Memory shows that no argument is changed, neither by a call nor by what is written into a result.
func TestR4Memory(t *testing.T) {
	for _, q := range someQuestions(dice()) {
		given, kept := q.copied(), q.copied()
		results := given.ask()
		text := fmt.Sprint(results)
		if !reflect.DeepEqual(given.full(), kept.full()) {
			t.Fatal("an argument is changed:", given, kept)
		}
		scribble(results)
		if !reflect.DeepEqual(given.full(), kept.full()) {
			t.Fatal("a result shares memory with an argument:", given, kept)
		}
		if again := fmt.Sprint(given.ask()); again != text {
			t.Fatal("it is not the same again:", text, again)
		}
	}
}

// TestR4ResultsApart shows that the lists of a result share nothing with each other.
func TestR4ResultsApart(t *testing.T) {
	for _, q := range someQuestions(dice()) {
		levels, _, _ := pan.Levels(q.b, q.start)
		again, _, _ := pan.Levels(q.b, q.start)
		for minute := range levels {
			for i := range levels[minute][:cap(levels[minute])] {
				levels[minute][:cap(levels[minute])][i] = r(-7, -7)
			}
			if !slices.EqualFunc(levels[minute+1:], again[minute+1:], slices.Equal) {
				t.Fatal("minutes share memory:", levels, again)
			}
		}
	}
}

// TestR4LaterChanges shows that a result stays as it is when the lists that were given change.
func TestR4LaterChanges(t *testing.T) {
	for _, q := range someQuestions(dice()) {
		given := q.copied()
		results := given.ask()
		text := fmt.Sprint(results)
		all := given.full()
		for _, n := range all.numbersOf() {
			*n = -7
		}
		if fmt.Sprint(results) != text {
			t.Fatal("a result changes with an argument:", text, results)
		}
	}
}

// TestR3NilAndEmpty asks with nil lists and with empty ones.
func TestR3NilAndEmpty(t *testing.T) {
	nils, empty := usualQuestion(), usualQuestion()
	nils.b.Acts, nils.unlit.Acts, nils.c.Minutes = nil, nil, nil
	empty.b.Acts, empty.unlit.Acts, empty.c.Minutes = []api.PanAct{}, []api.PanAct{}, []api.PanMinute{}
	sameAnswers(t, "acts and minutes", nils, empty)
	nils.b.Minutes, empty.b.Minutes = 0, 0
	nils.l, empty.l = each(nil, nil), each([]api.PanMinute{}, []api.PanMinute{})
	sameAnswers(t, "no minutes", nils, empty)
	nils.l, empty.l = nil, [][]api.PanMinute{}
	nils.start, empty.start = nil, []api.Range{}
	nils.pans, empty.pans = nil, []api.Sap{}
	sameAnswers(t, "nothing given", nils, empty)
	nils.b.Pans, empty.b.Pans = nil, []api.Pan{}
	nils.unlit.Pans, empty.unlit.Pans = nil, []api.Pan{}
	sameAnswers(t, "no pans", nils, empty)
}

// sameAnswers compares what is told for two questions.
func sameAnswers(t *testing.T, what string, a, b question) {
	t.Helper()
	if one, other := fmt.Sprint(a.ask()), fmt.Sprint(b.ask()); one != other {
		t.Errorf("%s: empty lists are not as nil ones: %s; %s", what, one, other)
	}
}

// TestP1AsMuchAsThereCanBe asks about as much as there can be; it ends soon.
func TestP1AsMuchAsThereCanBe(t *testing.T) {
	p := api.Pan{Low: 999998, High: 999999, Least: 1, Most: 1, Cool: 0, Hot: 2, Rim: 1000000}
	b := boilOf(times(6, p), 300, times(60, shut(299, 5))...)
	start := times(6, r(0, 1000000))
	sameHottest(t, "all fires", b, start, 100, api.OK)
	b.Acts[59] = draw(299, 0, 1000000)
	sameHottest(t, "no fire", b, start, 0, api.ErrNone)
	for range 1000 {
		sameSteady(t, "all numbers", p, 100, one(1000000), r(0, 1000000), api.OK)
	}
}
