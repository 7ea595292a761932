package line_test

import (
	"fmt"
	"math/rand/v2"
	"reflect"
	"slices"
	"testing"

	"spile/api"
	"spile/line"
)

// question is all that functions of the package can be asked about.
type question struct {
	n, other api.Net
	a, b     int
	pipe     api.Pipe
	flow     int
	flows    []api.Range
	frozen   []int
	table    []api.Row
	choices  []api.Bore
	need     int
}

// ask calls every function, and returns the results of each as a list that ends with the error.
func (q question) ask() map[string][]any {
	told := map[string][]any{"Check": {line.Check(q.n)}}
	way, e := line.Way(q.n, q.a)
	told["Way"] = []any{way, e}
	behind, e := line.Behind(q.n, q.a)
	told["Behind"] = []any{behind, e}
	length, e := line.Between(q.n, q.a, q.b)
	told["Between"] = []any{length, e}
	heights, e := line.Heights(q.n)
	told["Heights"] = []any{heights, e}
	climbs, e := line.Climbs(q.n)
	told["Climbs"] = []any{climbs, e}
	lost, e := line.Loss(q.pipe, q.flow)
	told["Loss"] = []any{lost, e}
	loads, e := line.Loads(q.n, q.flows, q.frozen)
	told["Loads"] = []any{loads, e}
	vacuum, e := line.Vacuum(q.n, q.flows, q.frozen)
	told["Vacuum"] = []any{vacuum, e}
	surely, possibly, e := line.Tight(q.n, q.flows, q.table)
	told["Tight"] = []any{surely, possibly, e}
	bores, cost, e := line.Plan(q.n, q.flows, q.choices, q.need)
	told["Plan"] = []any{bores, cost, e}
	kept, old, e := line.Cut(q.n, q.a)
	told["Cut"] = []any{kept, old, e}
	grown, e := line.Graft(q.n, q.b, q.other)
	told["Graft"] = []any{grown, e}
	return told
}

// usualQuestion asks about the chapter's examples.
func usualQuestion() question {
	return question{
		n: bush(), other: net(70, pipe(0, 11, 4, 1, 6), pipe(1, 12, 5, -2, 7)), a: 3, b: 2, pipe: pipe(1, 400, 8, -30, 5), flow: 6000,
		flows: bushFlows(), frozen: []int{4, 2}, table: []api.Row{{X: 8, Y: 5500}, {X: 20, Y: 11000}}, choices: bores(8, 2, 20, 3, 30, 5), need: 7690,
	}
}

// numbersOf returns pointers to all numbers of a question.
func (q *question) numbersOf() []*int {
	all := []*int{&q.n.Pump, &q.other.Pump, &q.a, &q.b, &q.flow, &q.need}
	pipes := []*api.Pipe{&q.pipe}
	for _, n := range []api.Net{q.n, q.other} {
		for i := range n.Pipes {
			pipes = append(pipes, &n.Pipes[i])
		}
	}
	for _, p := range pipes {
		all = append(all, &p.Parent, &p.Length, &p.Bore, &p.Drop, &p.Taps)
	}
	for i := range q.flows {
		all = append(all, &q.flows[i].Low, &q.flows[i].High)
	}
	for i := range q.frozen {
		all = append(all, &q.frozen[i])
	}
	for i := range q.table {
		all = append(all, &q.table[i].X, &q.table[i].Y)
	}
	for i := range q.choices {
		all = append(all, &q.choices[i].Size, &q.choices[i].Price)
	}
	return all
}

// zero reports whether a result is its zero value.
func zero(v any) bool {
	x := reflect.ValueOf(v)
	return x.IsZero() || x.Kind() == reflect.Slice && x.Len() == 0
}

// checkZero reports results beside an error, and returns how many functions answered without one.
func checkZero(t *testing.T, what string, q question) int {
	t.Helper()
	answers := 0
	for name, results := range q.ask() {
		last := len(results) - 1
		if results[last].(api.Errno) == api.OK {
			answers++
			continue
		}
		if slices.ContainsFunc(results[:last], func(v any) bool { return !zero(v) }) {
			t.Fatal(what, name, results, q)
		}
	}
	return answers
}

// TestP1AllArguments also shows P2: each call ends, none panics, and with an error there is no other result.
func TestP1AllArguments(t *testing.T) {
	hard := []int{low, low + 1, -api.MaxSpan, -10001, -10000, -1, 0, 1, 2, 3, 4, 5, 59, 60, 61, 80, 81, 1000, 1001, 10000, 10001, 100000, 100001, api.MaxFlow, api.MaxFlow + 1, most, most + 1, api.MaxSpan, high - 1, high}
	checkZero(t, "nothing", question{})
	first := usualQuestion()
	if n := checkZero(t, "the usual question", first); n != 13 {
		t.Error("only", n, "functions answer", first.ask())
	}
	for i := range first.numbersOf() {
		for _, n := range hard {
			q := usualQuestion()
			*q.numbersOf()[i] = n
			checkZero(t, fmt.Sprint("the number ", i, " is ", n), q)
		}
	}
	d := dice()
	for range 20000 {
		q := usualQuestion()
		all := q.numbersOf()
		for range pick(d, 2, 12) {
			*all[d.IntN(len(all))] = hard[d.IntN(len(hard))]
		}
		checkZero(t, "many numbers", q)
	}
	for _, n := range []int{0, 1, 2, 6, 7, 59, 60, 61, 200, 5000} {
		q := usualQuestion()
		q.n, q.flows, q.frozen = star(n+1), slices.Repeat(q.flows[2:3], n+1), numbers(1, n)
		checkZero(t, "much tubing", q)
		q = usualQuestion()
		q.frozen, q.table, q.choices = slices.Repeat(q.frozen, n), slices.Repeat(q.table[:1], n), slices.Repeat(q.choices[:1], n)
		checkZero(t, "long lists", q)
		q = usualQuestion()
		q.flows, q.other = slices.Repeat(q.flows[:1], n), chain(n+1)
		checkZero(t, "many flows", q)
	}
}

// TestP1GreatFlows has all numbers as great as they can be.
func TestP1GreatFlows(t *testing.T) {
	for _, drop := range []int{-10000, 10000} {
		n := chain(60)
		for i := range n.Pipes[1:] {
			n.Pipes[i+1] = pipe(i, 100000, 4, drop, 1000)
		}
		flows := slices.Repeat(just(api.MaxFlow), 60)
		loads, e := line.Loads(n, flows, nil)
		same(t, "the load of the pump", loads[0], e, one(most), api.OK)
		vacuum, e := line.Vacuum(n, flows, nil)
		sameList(t, "Vacuum", vacuum, e, append(just(10000), make([]api.Range, 59)...), api.OK)
		heights, e := line.Heights(n)
		same(t, "the height of the last node", heights[59], e, 59*drop, api.OK)
		climbs, e := line.Climbs(n)
		same(t, "the climb of the last node", climbs[59], e, max(0, -59*drop), api.OK)
		checkPlan(t, "Plan", n, flows, bores(80, 1000), 0, make([]int, 59), 5900000000, api.OK)
		checkPlan(t, "Plan", n, flows, bores(80, 1000), 1, nil, 0, api.ErrNone)
	}
}

// roomy returns a copy of a list with room behind it, so that what is written there is seen as well.
func roomy[T any](l []T) []T { return append(make([]T, 0, len(l)+100), l...) }

// copied returns a copy of a question that shares no memory with it.
func (q question) copied() question {
	q.n.Pipes, q.other.Pipes, q.flows, q.frozen, q.table, q.choices = roomy(q.n.Pipes), roomy(q.other.Pipes), roomy(q.flows), roomy(q.frozen), roomy(q.table), roomy(q.choices)
	return q
}

// full returns a question whose lists show all of their room.
func (q question) full() question {
	q.n.Pipes, q.other.Pipes, q.flows = q.n.Pipes[:cap(q.n.Pipes)], q.other.Pipes[:cap(q.other.Pipes)], q.flows[:cap(q.flows)]
	q.frozen, q.table, q.choices = q.frozen[:cap(q.frozen)], q.table[:cap(q.table)], q.choices[:cap(q.choices)]
	return q
}

// spoil writes into all lists of a result, and into the room behind them.
func spoil(v reflect.Value) {
	switch v.Kind() {
	case reflect.Slice:
		all := v.Slice(0, v.Cap())
		for i := range all.Len() {
			all.Index(i).SetZero()
		}
	case reflect.Struct:
		for i := range v.NumField() {
			spoil(v.Field(i))
		}
	}
}

// someQuestions are those that are answered, those that are not, and those with nothing in their lists.
func someQuestions(d *rand.Rand) []question {
	bad := usualQuestion()
	bad.n.Pipes[4].Parent, bad.other.Pipes[2].Parent = 4, 2
	errors := usualQuestion()
	errors.flows, errors.frozen, errors.table, errors.choices = append(errors.flows, one(-1)), []int{1, 1, 0}, errors.table[:1], bores(3, 3)
	alone := usualQuestion()
	alone.n, alone.other, alone.a, alone.b, alone.flows = net(5), net(7), 0, 0, just(3)
	questions := []question{usualQuestion(), bad, errors, alone}
	for range 50 {
		questions = append(questions, anyQuestion(d))
	}
	return questions
}

// anyQuestion returns a question about any tubing.
func anyQuestion(d *rand.Rand) question {
	q := usualQuestion()
	q.n, q.flows, q.choices, q.need = anyPlan(d, pick(d, 0, 6))
	q.other = anyNet(d, pick(d, 1, 6))
	q.a, q.b = pick(d, 0, len(q.n.Pipes)-1), pick(d, 0, len(q.n.Pipes)-1)
	q.frozen = anyFrozen(d, q.n)
	q.table = []api.Row{{X: 4, Y: pick(d, 0, 1000)}, {X: 80, Y: pick(d, 0, 1000)}}
	return q
}

func TestR4Memory(t *testing.T) {
	for _, q := range someQuestions(dice()) {
		given, kept := q.copied(), q.copied()
		results := given.ask()
		if !reflect.DeepEqual(given.full(), kept.full()) {
			t.Fatal("an argument is changed:", given, kept)
		}
		if again := given.ask(); !reflect.DeepEqual(again, results) {
			t.Fatal("it is not the same again:", results, again)
		}
		for _, list := range results {
			for _, v := range list {
				spoil(reflect.ValueOf(v))
			}
		}
		if !reflect.DeepEqual(given.full(), kept.full()) {
			t.Fatal("a result shares memory with an argument:", given, kept)
		}
	}
}

// TestR4LaterChanges shows that what is written into an argument is not seen in a result, nor what is written into one list of a result in another one.
func TestR4LaterChanges(t *testing.T) {
	n, other := bush(), net(70, pipe(0, 11, 4, 1, 6))
	kept, old, _ := line.Cut(n, 4)
	grown, _ := line.Graft(n, 4, other)
	bare, _ := line.Graft(n, 0, net(70))
	clear(n.Pipes)
	clear(other.Pipes)
	sameNet(t, "Cut", kept, api.OK, api.Net{Pump: 8000, Pipes: bush().Pipes[:4]}, api.OK)
	sameNet(t, "Graft", grown, api.OK, bushWith(func(n *api.Net) { n.Pipes = append(n.Pipes, pipe(4, 11, 4, 1, 6)) }), api.OK)
	sameNet(t, "Graft of a pump alone", bare, api.OK, bush(), api.OK)
	left, _ := line.Graft(grown, 1, net(70, pipe(0, 21, 4, 1, 6)))
	right, _ := line.Graft(grown, 1, net(70, pipe(0, 22, 4, 1, 6)))
	if left.Pipes[6].Length != 21 || right.Pipes[6].Length != 22 {
		t.Error("two nets share a pipe:", left, right)
	}
	clear(kept.Pipes[:cap(kept.Pipes)])
	sameList(t, "the numbers of Cut", old, api.OK, []int{0, 1, 2, 3}, api.OK)
	surely, possibly, _ := line.Tight(bush(), bushFlows(), []api.Row{{X: 4, Y: 0}, {X: 80, Y: 0}})
	clear(surely[:cap(surely)])
	sameList(t, "Tight", possibly, api.OK, []int{1, 2, 3, 4}, api.OK)
	flows := bushFlows()
	loads, _ := line.Loads(flat(), flows, nil)
	vacuum, _ := line.Vacuum(flat(), flows, nil)
	clear(flows)
	sameList(t, "Loads", loads, api.OK, set(r(11000, 12000), one(0), r(5000, 6000), one(4000), one(2000)), api.OK)
	same(t, "Vacuum at the pump", vacuum[0], api.OK, one(10000), api.OK)
}

// flat returns tubing of five nodes in which all pipes lead to the pump.
func flat() api.Net { return star(5) }

// TestR3NilAndEmpty asks with nil lists and with empty ones.
func TestR3NilAndEmpty(t *testing.T) {
	for _, n := range []api.Net{{}, net(5), bush()} {
		q := usualQuestion()
		q.n, q.a, q.b = n, 0, 0
		if len(n.Pipes) == 1 {
			q.flows = just(3)
		}
		q.frozen = nil
		nils := q.ask()
		q.frozen = []int{}
		sameAnswers(t, q.ask(), nils)
		q.other.Pipes, q.flows, q.table, q.choices = nil, nil, nil, nil
		nils = q.ask()
		q.other.Pipes, q.flows, q.table, q.choices = []api.Pipe{}, []api.Range{}, []api.Row{}, []api.Bore{}
		if len(n.Pipes) == 0 {
			q.n.Pipes = []api.Pipe{}
		}
		sameAnswers(t, q.ask(), nils)
	}
}

// sameAnswers reports answers that are not those that are wanted.
func sameAnswers(t *testing.T, got, want map[string][]any) {
	t.Helper()
	for name, results := range got {
		if fmt.Sprint(results) != fmt.Sprint(want[name]) {
			t.Error(name, results, want[name])
		}
	}
}

func TestP3_10Forest(t *testing.T) {
	d := dice()
	on, off := 0, 0
	for range 200 {
		n := anyNet(d, pick(d, 1, 12))
		for a := range n.Pipes {
			way, e := line.Way(n, a)
			for _, b := range way {
				behind, f := line.Behind(n, b)
				if e != api.OK || f != api.OK || !slices.Contains(behind, a) {
					t.Fatal(n, a, "is not behind", b, behind)
				}
			}
			for b := range n.Pipes {
				there, e := line.Between(n, a, b)
				back, f := line.Between(n, b, a)
				if e != api.OK || f != api.OK || there != back || (there == 0) != (a == b) {
					t.Fatal(n, a, b, there, back, e, f)
				}
				for third := range n.Pipes {
					first, e := line.Between(n, a, third)
					second, f := line.Between(n, third, b)
					over := first + second
					if onWay := slices.Contains(path(n, a, b), third); e != api.OK || f != api.OK || over < there || (over == there) != onWay {
						t.Fatal(n, a, b, there, "over", third, over, onWay)
					} else if onWay {
						on++
					} else {
						off++
					}
				}
			}
		}
	}
	if on < 1000 || off < 1000 {
		t.Error("too few third nodes", on, off)
	}
}

// path returns the nodes from a node to another one: up to where both ways meet, and down again.
func path(n api.Net, a, b int) []int {
	down := wayOf(n, b)
	var l []int
	for _, at := range wayOf(n, a) {
		l = append(l, at)
		if i := slices.Index(down, at); i >= 0 {
			return append(l, down[:i]...)
		}
	}
	return nil
}

func TestP3_11WhatFlowsArrives(t *testing.T) {
	d := dice()
	for range 1500 {
		n := anyNet(d, pick(d, 1, 12))
		flows, frozen := anyFlows(d, n), anyFrozen(d, n)
		want := api.Range{}
		for node, f := range flows {
			if !slices.ContainsFunc(wayOf(n, node), func(at int) bool { return slices.Contains(frozen, at) }) {
				want = r(want.Low+f.Low, want.High+f.High)
			}
		}
		loads, e := line.Loads(n, flows, frozen)
		same(t, fmt.Sprint("the load of the pump of ", n, flows, frozen), loads[0], e, want, api.OK)
	}
}

// notAbove reports whether no range of a list has an end above that of the other one.
func notAbove(a, b []api.Range) bool {
	for i := range a {
		if a[i].Low > b[i].Low || a[i].High > b[i].High {
			return false
		}
	}
	return len(a) == len(b)
}

func TestP3_11MoreFlowsAndWiderBores(t *testing.T) {
	d := dice()
	less, more := 0, 0
	for range 2000 {
		n := anyNet(d, pick(d, 2, 10))
		flows, frozen := anyFlows(d, n), anyFrozen(d, n)
		node := pick(d, 1, len(n.Pipes)-1)
		loads, _ := line.Loads(n, flows, frozen)
		vacuum, e := line.Vacuum(n, flows, frozen)
		greater := slices.Clone(flows)
		greater[node] = r(flows[node].Low+pick(d, 0, 9000), flows[node].High+pick(d, 9000, 19000))
		all, f := line.Loads(n, greater, frozen)
		left, g := line.Vacuum(n, greater, frozen)
		if e != api.OK || f != api.OK || g != api.OK || !notAbove(loads, all) || !notAbove(left, vacuum) {
			t.Fatal("with more flow:", n, frozen, flows, loads, vacuum, greater, all, left)
		}
		if !notAbove(vacuum, left) {
			less++
		}
		wide := api.Net{Pump: n.Pump, Pipes: slices.Clone(n.Pipes)}
		wide.Pipes[node].Bore += pick(d, 1, 20)
		left, e = line.Vacuum(wide, flows, frozen)
		if e != api.OK || !notAbove(vacuum, left) {
			t.Fatal("with a wider bore:", n, frozen, flows, vacuum, wide, left)
		}
		if !notAbove(left, vacuum) {
			more++
		}
	}
	if less < 200 || more < 200 {
		t.Error("too few with another vacuum", less, more)
	}
}

func TestP3_12AllAlong(t *testing.T) {
	d := dice()
	for range 1000 {
		n := anyNet(d, pick(d, 1, 9))
		flows, frozen := anyFlows(d, n), anyFrozen(d, n)
		what := fmt.Sprint(n, flows, frozen)
		loads, e := line.Loads(n, flows, frozen)
		vacuum, f := line.Vacuum(n, flows, frozen)
		if e != api.OK || f != api.OK {
			t.Fatal(what, e, f)
		}
		for node, p := range n.Pipes[1:] {
			if !notAbove(vacuum[node+1:node+2], vacuum[p.Parent:p.Parent+1]) {
				t.Fatal("the vacuum rises:", what, vacuum)
			}
		}
		for range 10 {
			l := truth(d, flows)
			if !inside(trueLoads(n, l, frozen), loads) || !inside(trueVacuum(n, l, frozen), vacuum) {
				t.Fatal("a truth lies outside:", what, l, loads, vacuum)
			}
		}
		for _, l := range [][]int{lows(flows), highs(flows)} {
			if known, e := line.Loads(n, just(l...), frozen); e != api.OK || !inside(lows(known), loads) {
				t.Fatal("a known flow lies outside:", what, l, known, loads)
			}
		}
		sameList(t, "the lowest loads of "+what, lows(loads), e, trueLoads(n, lows(flows), frozen), api.OK)
		sameList(t, "the highest loads of "+what, highs(loads), e, trueLoads(n, highs(flows), frozen), api.OK)
		sameList(t, "the lowest vacuum of "+what, lows(vacuum), e, trueVacuum(n, highs(flows), frozen), api.OK)
		sameList(t, "the highest vacuum of "+what, highs(vacuum), e, trueVacuum(n, lows(flows), frozen), api.OK)
	}
}

// changes yields the lists in which one number, or two, are others.
func changes(l []int, choices int) func(yield func([]int) bool) {
	return func(yield func([]int) bool) {
		for i := range l {
			for j := range i + 1 {
				for a := range choices {
					for b := range choices {
						other := slices.Clone(l)
						other[i], other[j] = a, b
						if !yield(other) {
							return
						}
					}
				}
			}
		}
	}
}

func TestP3_13Cheapest(t *testing.T) {
	d := dice()
	plans := 0
	for range 400 {
		n, flows, choices, need := anyPlan(d, pick(d, 1, 14))
		l, cost, e := line.Plan(n, flows, choices, need/2)
		if e == api.ErrNone {
			continue
		}
		plans++
		what := fmt.Sprint(n, flows, choices, need/2, l, cost)
		if e != api.OK || cost != costOf(n, choices, l) || !enough(withBores(n, choices, l), flows, need/2) {
			t.Fatal("Plan", what, e)
		}
		for other := range changes(l, len(choices)) {
			if c := costOf(n, choices, other); c > cost || c == cost && slices.Compare(other, l) >= 0 {
				continue
			}
			if enough(withBores(n, choices, other), flows, need/2) {
				t.Fatal("another list is better:", what, other)
			}
		}
	}
	if plans < 100 {
		t.Error("too few plans", plans)
	}
}

func TestExamples(t *testing.T) {
	way, e := line.Way(bush(), 4)
	sameList(t, "Way of 4", way, e, []int{4, 3, 1, 0}, api.OK)
	behind, e := line.Behind(bush(), 1)
	sameList(t, "Behind 1", behind, e, []int{1, 2, 3, 4}, api.OK)
	length, e := line.Between(bush(), 2, 4)
	same(t, "Between 2 and 4", length, e, 900, api.OK)
	heights, e := line.Heights(bush())
	sameList(t, "Heights", heights, e, []int{0, 500, 470, 600, 650}, api.OK)
	climbs, e := line.Climbs(bush())
	sameList(t, "Climbs", climbs, e, []int{0, 0, 30, 0, 0}, api.OK)
	loads, e := line.Loads(bush(), bushFlows(), nil)
	sameList(t, "Loads", loads, e, set(r(11000, 12000), r(11000, 12000), r(5000, 6000), one(6000), one(2000)), api.OK)
	vacuum, e := line.Vacuum(bush(), bushFlows(), nil)
	sameList(t, "Vacuum", vacuum, e, just(8000, 7997, 7693, 7994, 7993), api.OK)
	loads, e = line.Loads(bush(), bushFlows(), []int{3})
	same(t, "the load of the pump with a frozen pipe", loads[0], e, r(5000, 6000), api.OK)
	vacuum, e = line.Vacuum(bush(), bushFlows(), []int{3})
	sameList(t, "the vacuum behind a frozen pipe", vacuum[3:], e, just(0, 0), api.OK)
	// The pipe of the document's own example: 100 meters with a bore of 20 millimeters, and 12 liters an hour.
	lost, e := line.Loss(pipe(0, 1000, 20, 0, 0), 12000)
	same(t, "Loss", lost, e, 3, api.OK)
}
