package leak_test

import (
	"fmt"
	"math/rand/v2"
	"reflect"
	"slices"
	"testing"

	"spile/api"
	"spile/leak"
)

// question is all that functions of the package can be asked about.
type question struct {
	w        api.Watch
	leaks    []api.Leak
	places   []int
	count    int
	node     int
	sensors  []int
	nodes    int
	trails   []api.Trail
	from, to int
	stops    []int
	back     bool
	starts   []int
	work     int
}

// ask calls every function, and returns the results of each as a list that ends with the error.
func (q question) ask() map[string][]any {
	told := map[string][]any{"Check": {leak.Check(q.w)}, "CheckTrails": {leak.CheckTrails(q.nodes, q.trails)}}
	readings, e := leak.Predict(q.w, q.leaks)
	told["Predict"] = []any{readings, e}
	sizes, e := leak.Fits(q.w, q.places)
	told["Fits"] = []any{sizes, e}
	suspects, e := leak.Suspects(q.w, q.count)
	told["Suspects"] = []any{suspects, e}
	least, places, e := leak.Places(q.w)
	told["Places"] = []any{least, places, e}
	excuse, e := leak.Excuse(q.w, q.node)
	told["Excuse"] = []any{excuse, e}
	excused, e := leak.Excused(q.w, q.node, q.sensors)
	told["Excused"] = []any{excused, e}
	next, left, e := leak.Next(q.w)
	told["Next"] = []any{next, left, e}
	way, minutes, e := leak.Path(q.nodes, q.trails, q.from, q.to)
	told["Path"] = []any{way, minutes, e}
	order, walk, e := leak.Walk(q.nodes, q.trails, q.from, q.stops, q.back)
	told["Walk"] = []any{order, walk, e}
	rounds, latest, e := leak.Rounds(q.nodes, q.trails, q.starts, q.stops, q.work)
	told["Rounds"] = []any{rounds, latest, e}
	return told
}

// usualQuestion asks about the chapter's examples.
func usualQuestion() question {
	w := usual()
	w.Frozen = list(4)
	w.Sensors = append(w.Sensors, sensor(0, 0, 10000))
	return question{
		w: w, leaks: leaks(at(1, 1), at(3, 2)), places: list(0, 2), count: 2, node: 3, sensors: list(0, 0, 0),
		nodes: 4, trails: usualTrails(), from: 0, to: 3, stops: list(2, 3), starts: list(0, 1), work: 5,
	}
}

// numbersOf returns where all numbers of a question are.
func (q *question) numbersOf() []*int {
	numbers := []*int{&q.w.Net.Pump, &q.w.Air, &q.w.Steps, &q.count, &q.node, &q.nodes, &q.from, &q.to, &q.work}
	for i := range q.w.Net.Pipes {
		p := &q.w.Net.Pipes[i]
		numbers = append(numbers, &p.Parent, &p.Length, &p.Bore, &p.Drop, &p.Taps)
	}
	for i := range q.w.Flows {
		numbers = append(numbers, &q.w.Flows[i].Low, &q.w.Flows[i].High)
	}
	for i := range q.w.Sensors {
		s := &q.w.Sensors[i]
		numbers = append(numbers, &s.Node, &s.Reading.Low, &s.Reading.High)
	}
	for i := range q.leaks {
		numbers = append(numbers, &q.leaks[i].Node, &q.leaks[i].Size)
	}
	for i := range q.trails {
		numbers = append(numbers, &q.trails[i].A, &q.trails[i].B, &q.trails[i].Minutes)
	}
	for _, l := range [][]int{q.w.Frozen, q.places, q.sensors, q.stops, q.starts} {
		for i := range l {
			numbers = append(numbers, &l[i])
		}
	}
	return numbers
}

// zero reports whether a result is its zero value.
func zero(v any) bool {
	x := reflect.ValueOf(v)
	return x.IsZero() || x.Kind() == reflect.Slice && x.Len() == 0
}

// checkZero reports results beside an error, and returns how many functions answered without one.
func checkZero(t *testing.T, what string, q question) int {
	t.Helper()
	answers := 0
	for name, results := range q.ask() {
		last := len(results) - 1
		if results[last].(api.Errno) == api.OK {
			answers++
			continue
		}
		if slices.ContainsFunc(results[:last], func(v any) bool { return !zero(v) }) {
			t.Fatal(what, name, results, q)
		}
	}
	return answers
}

// hard are numbers at the limits, and beyond them.
func hard() []int {
	return []int{low, low + 1, -api.MaxSpan - 1, -10001, -10000, -1, 0, 1, 2, 3, 4, 5, 8, 12, 13, 20, 21, 59, 60, 61, 80, 81, 1000, 1001, 7960, 10000, 10001, 100000, 100001, 10000000, 10000001, 999999999, 1000000000, 1000000001, api.MaxSpan, api.MaxSpan + 1, high - 1, high}
}

// TestP1AllArguments also shows P2: each call ends, none panics, and with an error there is no other result.
func TestP1AllArguments(t *testing.T) {
	checkZero(t, "nothing", question{})
	first := usualQuestion()
	if n := checkZero(t, "the usual question", first); n != 12 {
		t.Error("only", n, "functions answer", first.ask())
	}
	for i := range first.numbersOf() {
		for _, n := range hard() {
			q := usualQuestion()
			*q.numbersOf()[i] = n
			checkZero(t, fmt.Sprint("the number ", i, " is ", n), q)
		}
	}
	d := dice()
	for range 20000 {
		q := usualQuestion()
		all := q.numbersOf()
		for range pick(d, 2, 12) {
			*all[d.IntN(len(all))] = hard()[d.IntN(len(hard()))]
		}
		checkZero(t, "many numbers", q)
	}
}

func TestP1LongLists(t *testing.T) {
	for _, n := range []int{0, 1, 2, 3, 4, 8, 9, 12, 13, 20, 21, 59, 60, 61, 200, 201, 1000, 100000} {
		q := usualQuestion()
		q.leaks, q.places, q.sensors = slices.Repeat(q.leaks, n), slices.Repeat(q.places, n), slices.Repeat(q.sensors, n)
		q.trails, q.stops, q.starts = slices.Repeat(q.trails, n), slices.Repeat(q.stops, n), slices.Repeat(q.starts, n)
		checkZero(t, fmt.Sprint("lists of ", n), q)
		q.w.Frozen, q.w.Sensors = slices.Repeat(q.w.Frozen, n), slices.Repeat(q.w.Sensors, n)
		checkZero(t, fmt.Sprint("longer lists of ", n), q)
		q.w.Net.Pipes, q.w.Flows = slices.Repeat(q.w.Net.Pipes, n), slices.Repeat(q.w.Flows, n)
		checkZero(t, fmt.Sprint("the longest lists of ", n), q)
		q = usualQuestion()
		q.w = chainWatch(min(n+1, 1000))
		for node := range min(n, 60) {
			q.w.Sensors = append(q.w.Sensors, sensor(node, 0, 10000))
			q.stops = append(q.stops, node)
		}
		q.nodes = n
		checkZero(t, fmt.Sprint("a chain of ", n), q)
	}
}

// roomy returns a copy of a list with room behind it, so that what is written there is seen as well.
func roomy[T any](l []T) []T { return append(make([]T, 0, len(l)+100), l...) }

// full returns a list with all of its room.
func full[T any](l []T) []T { return l[:cap(l)] }

// copied returns a copy of a question that shares no memory with it.
func (q question) copied() question {
	q.w.Net.Pipes, q.w.Flows, q.w.Frozen, q.w.Sensors = roomy(q.w.Net.Pipes), roomy(q.w.Flows), roomy(q.w.Frozen), roomy(q.w.Sensors)
	q.leaks, q.places, q.sensors = roomy(q.leaks), roomy(q.places), roomy(q.sensors)
	q.trails, q.stops, q.starts = roomy(q.trails), roomy(q.stops), roomy(q.starts)
	return q
}

// full returns a question whose lists show all of their room.
func (q question) full() question {
	q.w.Net.Pipes, q.w.Flows, q.w.Frozen, q.w.Sensors = full(q.w.Net.Pipes), full(q.w.Flows), full(q.w.Frozen), full(q.w.Sensors)
	q.leaks, q.places, q.sensors = full(q.leaks), full(q.places), full(q.sensors)
	q.trails, q.stops, q.starts = full(q.trails), full(q.stops), full(q.starts)
	return q
}

// spoil writes into a list of a result, and into the room behind it.
func spoil(v reflect.Value) {
	if v.Kind() != reflect.Slice {
		return
	}
	all := v.Slice(0, v.Cap())
	for i := range all.Len() {
		spoil(all.Index(i))
		if all.Index(i).Kind() != reflect.Slice {
			all.Index(i).SetInt(-7)
		}
	}
}

// spoilAll spoils all results but the errors; ranges are set to nothing.
func spoilAll(told map[string][]any) {
	for name, results := range told {
		if name == "Predict" {
			clear(full(results[0].([]api.Range)))
			continue
		}
		for _, v := range results {
			spoil(reflect.ValueOf(v))
		}
	}
}

// someQuestions are those that are answered, those that are not, and those with nothing in their lists.
func someQuestions(d *rand.Rand) []question {
	bad := usualQuestion()
	bad.w.Sensors[1].Node, bad.trails[3].Minutes = 3, 0
	late := usualQuestion()
	late.leaks[1].Size, late.places[1], late.count, late.node, late.sensors[2] = 4, 0, 3, 1, 2
	late.to, late.stops[1], late.starts[1] = 4, 2, 4
	none := usualQuestion()
	none.w.Frozen, none.w.Sensors, none.leaks, none.places, none.sensors = nil, nil, nil, nil, nil
	none.trails, none.stops, none.starts, none.to = nil, nil, nil, 0
	questions := []question{usualQuestion(), bad, late, none}
	for range 200 {
		questions = append(questions, anyQuestion(d))
	}
	return questions
}

// anyQuestion returns a question about any watched tubing, and any trails.
func anyQuestion(d *rand.Rand) question {
	q := question{nodes: pick(d, 1, 7), work: pick(d, 0, 9), back: d.IntN(2) == 0, count: pick(d, 0, 2)}
	q.w, _ = anyWatch(d, pick(d, 1, 6))
	q.node = d.IntN(len(q.w.Net.Pipes))
	q.leaks = anyLeaks(d, q.w, 2)
	for _, l := range q.leaks {
		q.places = append(q.places, l.Node)
	}
	if len(q.w.Sensors) > 0 {
		q.sensors = randomSensors(d, q.w)
	}
	q.trails = anyTrails(d, q.nodes, 9)
	q.from, q.to, q.stops, q.starts = d.IntN(q.nodes), d.IntN(q.nodes), someOf(d, q.nodes, 4), someOf(d, q.nodes, 3)
	return q
}

func TestR4Memory(t *testing.T) {
	for _, q := range someQuestions(dice()) {
		given, kept := q.copied(), q.copied()
		results := given.ask()
		if !reflect.DeepEqual(given.full(), kept.full()) {
			t.Fatal("an argument is changed:", given, kept)
		}
		if again := given.ask(); !reflect.DeepEqual(again, results) {
			t.Fatal("it is not the same again:", results, again)
		}
		spoilAll(results)
		if !reflect.DeepEqual(given.full(), kept.full()) {
			t.Fatal("a result shares memory with an argument:", given, kept)
		}
	}
}

// TestR4LaterChanges shows that what is written into an argument is not seen in a result, nor what is written into one list of a result in another one.
func TestR4LaterChanges(t *testing.T) {
	places, sensors, stops, starts, w, l := list(1, 2), list(0, 0, 0), list(3, 2), list(0, 0), usual(), usualTrails()
	sizes, _ := leak.Fits(reading(), places)
	readings, _ := leak.Predict(w, nil)
	order, _, _ := leak.Walk(4, l, 0, stops, false)
	rounds, _, _ := leak.Rounds(4, l, starts, stops, 1)
	if ok, e := leak.Excused(w, 0, sensors); !ok || e != api.OK {
		t.Error("Excused", ok, e)
	}
	clear(places)
	clear(w.Sensors)
	clear(stops)
	clear(l)
	sameList(t, "Fits", sizes, api.OK, list(1, 1), api.OK)
	sameList(t, "Predict", readings, api.OK, just(7994), api.OK)
	sameList(t, "Walk", order, api.OK, list(2, 3), api.OK)
	sameLists(t, "Rounds", rounds, api.OK, lists(list(3), list(2)), api.OK)
	for count := range 3 {
		suspects, e := leak.Suspects(reading(), count)
		want, _ := leak.Suspects(reading(), count)
		for i := range suspects {
			_ = append(suspects[i], -7)
			clear(full(suspects[i]))
			for j := i + 1; j < len(suspects); j++ {
				sameList(t, "a set behind another one", suspects[j], e, want[j], api.OK)
			}
		}
	}
	_ = append(rounds[0], -7, -7)
	clear(full(rounds[0]))
	sameList(t, "the second round", rounds[1], api.OK, list(2), api.OK)
}

// TestR3NilAndEmpty asks with nil lists and with empty ones.
func TestR3NilAndEmpty(t *testing.T) {
	nils, empty := usualQuestion(), usualQuestion()
	nils.w.Frozen, nils.w.Sensors, nils.leaks, nils.places, nils.sensors = nil, nil, nil, nil, nil
	nils.trails, nils.stops, nils.starts, nils.to = nil, nil, nil, 0
	empty.w.Frozen, empty.w.Sensors, empty.leaks, empty.places, empty.sensors = list(), sensors(), leaks(), list(), list()
	empty.w.Sensors, empty.leaks, empty.w.Frozen = []api.Sensor{}, []api.Leak{}, []int{}
	empty.trails, empty.stops, empty.starts, empty.to = []api.Trail{}, []int{}, []int{}, 0
	empty.places, empty.sensors = []int{}, []int{}
	sameAnswers(t, empty.ask(), nils.ask())
	nils.starts, empty.starts = list(1), list(1)
	sameAnswers(t, empty.ask(), nils.ask())
	nils.w.Flows, nils.w.Net.Pipes = nil, nil
	empty.w.Flows, empty.w.Net.Pipes = []api.Range{}, []api.Pipe{}
	sameAnswers(t, empty.ask(), nils.ask())
}

// sameAnswers reports answers that are not those that are wanted.
func sameAnswers(t *testing.T, got, want map[string][]any) {
	t.Helper()
	for name, results := range got {
		if fmt.Sprint(results) != fmt.Sprint(want[name]) {
			t.Error(name, results, want[name])
		}
	}
}

func TestExamples(t *testing.T) {
	for _, c := range []struct {
		leaks []api.Leak
		want  int
	}{{nil, 7994}, {leaks(at(1, 1)), 7969}, {leaks(at(2, 1)), 7969}, {leaks(at(3, 1)), 7922}, {leaks(at(4, 1)), 7922}} {
		readings, e := leak.Predict(usual(), c.leaks)
		sameList(t, fmt.Sprint("Predict ", c.leaks), readings, e, just(c.want), api.OK)
	}
	samePlaces(t, "a reading of 7990 to 8000", reading(sensor(3, 7990, 8000)), 0, nil, api.OK)
	samePlaces(t, "the reading 7960 to 7970", usual(), 1, list(1, 2), api.OK)
	for node := range 3 {
		sizes, e := leak.Fits(usual(), list(node))
		if node > 0 {
			sameList(t, fmt.Sprint("Fits of ", node), sizes, e, list(1), api.OK)
		} else {
			sameList(t, "Fits of 0", sizes, e, nil, api.ErrState)
		}
	}
	for _, node := range list(0, 3, 4) {
		excuse, e := leak.Excuse(usual(), node)
		sameList(t, fmt.Sprint("Excuse of ", node), excuse, e, list(0, 0, 0), api.OK)
	}
	sameNext(t, "the reading 7960 to 7970", usual(), [2]int{2, 1}, api.OK)
	two := reading(sensor(2, 0, 10000))
	for leaking, want := range []api.Range{1: one(7668), 2: r(7605, 7606)} {
		if leaking > 0 {
			readings, e := leak.Predict(two, leaks(at(leaking, 1)))
			sameList(t, fmt.Sprint("at 2 with a leak at ", leaking), readings, e, set(want), api.OK)
		}
	}
	samePath(t, 4, usualTrails(), 0, 3, list(0, 1, 3), 11, api.OK)
	sameWalk(t, 4, usualTrails(), 0, list(2, 3), false, list(2, 3), 12, api.OK)
	sameWalk(t, 4, usualTrails(), 0, list(2, 3), true, list(2, 3), 23, api.OK)
}
