package thaw_test

import (
	"fmt"
	"math/rand/v2"
	"reflect"
	"slices"
	"testing"

	"spile/api"
	"spile/thaw"
)

// question is all that functions of the package can be asked about.
type question struct {
	l         api.ThawRules
	s         api.ThawState
	w         []api.Range
	t         api.Range
	kinds     []api.HourKind
	most      bool
	looked    []api.Seen
	groups    []api.TapGroup
	hours     api.Range
	ran       api.Range
	collected int
}

// ask calls every function, and returns the results of each as a list that ends with the error.
func (q question) ask() map[string][]any {
	told := map[string][]any{"Check": {thaw.Check(q.l, q.s, q.w)}}
	kinds, e := thaw.Kinds(q.l, q.t)
	told["Kinds"] = []any{kinds, e}
	runs, end, e := thaw.Course(q.l, q.s, q.kinds)
	told["Course"] = []any{runs, end, e}
	all, e := thaw.Runs(q.l, q.s, q.w)
	told["Runs"] = []any{all, e}
	ends, e := thaw.Ends(q.l, q.s, q.w)
	told["Ends"] = []any{ends, e}
	extreme, e := thaw.Extreme(q.l, q.s, q.w, q.most)
	told["Extreme"] = []any{extreme, e}
	daily, e := thaw.Daily(q.l, q.s, q.w)
	told["Daily"] = []any{daily, e}
	possibly, surely, e := thaw.First(q.l, q.s, q.w)
	told["First"] = []any{possibly, surely, e}
	at, fit, e := thaw.Fits(q.l, q.s, q.w, q.looked)
	told["Fits"] = []any{at, fit, e}
	gives, e := thaw.Gives(q.l, q.groups)
	told["Gives"] = []any{gives, e}
	crop, e := thaw.Crop(q.l, q.groups, q.hours)
	told["Crop"] = []any{crop, e}
	missing, e := thaw.Missing(q.ran, q.collected)
	told["Missing"] = []any{missing, e}
	return told
}

// usualQuestion asks about the chapter's examples.
func usualQuestion() question {
	return question{
		l: usual(), s: state(1, 0), w: spring(), t: r(-20, 30), kinds: course(fr, st, th, th, th), looked: seen(un, un, run, un, dry),
		groups: groups(group(10, 5000, 6000), group(3, 0, 10)), hours: r(0, 2), ran: r(0, 25600), collected: 600,
	}
}

// settersOf returns functions that set one of all numbers of a question.
func (q *question) settersOf() []func(n int) {
	var all []func(n int)
	numbers := []*int{&q.l.Frost, &q.l.Thaw, &q.l.Gain, &q.l.Full, &q.l.Ice, &q.l.Most, &q.l.Melt, &q.l.Pull, &q.s.Charge, &q.s.Ice, &q.collected}
	ranges := []*api.Range{&q.l.Rate, &q.t, &q.hours, &q.ran}
	for i := range q.w {
		ranges = append(ranges, &q.w[i])
	}
	for i := range q.groups {
		numbers, ranges = append(numbers, &q.groups[i].Taps), append(ranges, &q.groups[i].Vacuum)
	}
	for _, a := range ranges {
		numbers = append(numbers, &a.Low, &a.High)
	}
	for _, at := range numbers {
		all = append(all, func(n int) { *at = n })
	}
	for i := range q.kinds {
		all = append(all, func(n int) { q.kinds[i] = api.HourKind(n) })
	}
	for i := range q.looked {
		all = append(all, func(n int) { q.looked[i] = api.Seen(n) })
	}
	return all
}

// zero reports whether a result is its zero value.
func zero(v any) bool {
	x := reflect.ValueOf(v)
	return x.IsZero() || x.Kind() == reflect.Slice && x.Len() == 0
}

// checkZero reports results beside an error, and returns how many functions answered without one.
func checkZero(t *testing.T, what string, q question) int {
	t.Helper()
	answers := 0
	for name, results := range q.ask() {
		last := len(results) - 1
		if results[last].(api.Errno) == api.OK {
			answers++
			continue
		}
		if slices.ContainsFunc(results[:last], func(v any) bool { return !zero(v) }) {
			t.Fatal(what, name, results, q)
		}
	}
	return answers
}

// TestP1AllArguments also shows P2: each call ends, none panics, and with an error there is no other result.
func TestP1AllArguments(t *testing.T) {
	hard := []int{low, low + 1, -api.MaxSpan - 1, -601, -600, -1, 0, 1, 2, 3, 4, 5, 29, 30, 31, 59, 60, 61, 99, 100, 101, 600, 601, 1000, 1001, 10000, 10001, 100000, 100001, api.MaxSpan, api.MaxSpan + 1, high - 1, high}
	checkZero(t, "nothing", question{})
	first := usualQuestion()
	if n := checkZero(t, "the usual question", first); n != 12 {
		t.Error("only", n, "functions answer", first.ask())
	}
	for i := range first.settersOf() {
		for _, n := range hard {
			q := usualQuestion()
			q.settersOf()[i](n)
			checkZero(t, fmt.Sprint("the number ", i, " is ", n), q)
		}
	}
	d := dice()
	for range 20000 {
		q := usualQuestion()
		all := q.settersOf()
		for range pick(d, 2, 12) {
			all[d.IntN(len(all))](hard[d.IntN(len(hard))])
		}
		checkZero(t, "many numbers", q)
	}
	for _, n := range []int{0, 1, 23, 24, 25, 59, 60, 61, 100, 101, 999, 1000, 1001, 5000, 1000000} {
		q := usualQuestion()
		q.w, q.kinds, q.looked, q.groups = times(n, unknown), times(n, th), times(n, un), times(n, group(1000, 0, 10000))
		checkZero(t, fmt.Sprint("lists of ", n), q)
		q.looked, q.most = times(n+1, dry), true
		checkZero(t, fmt.Sprint("lists of ", n, " and one more"), q)
	}
}

// roomy returns a copy of a list with room behind it, so that what is written there is seen as well.
func roomy[T any](l []T) []T { return append(make([]T, 0, len(l)+100), l...) }

// copied returns a copy of a question that shares no memory with it.
func (q question) copied() question {
	q.w, q.kinds, q.looked, q.groups = roomy(q.w), roomy(q.kinds), roomy(q.looked), roomy(q.groups)
	return q
}

// full returns a question whose lists show all of their room.
func (q question) full() question {
	q.w, q.kinds, q.looked, q.groups = q.w[:cap(q.w)], q.kinds[:cap(q.kinds)], q.looked[:cap(q.looked)], q.groups[:cap(q.groups)]
	return q
}

// spoil writes into a list of a result, and into the room behind it.
func spoil(v reflect.Value) {
	if v.Kind() == reflect.Slice {
		all := v.Slice(0, v.Cap())
		for i := range all.Len() {
			all.Index(i).SetZero()
		}
	}
}

// someQuestions are those that are answered, those that are not, and those with nothing in their lists.
func someQuestions(d *rand.Rand) []question {
	bad := usualQuestion()
	bad.l.Full, bad.w[4], bad.kinds[4], bad.groups[1].Taps = 61, r(1, 0), 4, -1
	late := usualQuestion()
	late.looked[4], late.hours, late.collected = 3, r(1, 0), 25601
	none := usualQuestion()
	none.w, none.kinds, none.looked, none.groups = nil, nil, nil, nil
	questions := []question{usualQuestion(), bad, late, none}
	for range 100 {
		q := usualQuestion()
		b := anyBush(d, pick(d, 0, 60))
		q.l, q.s, q.w, q.kinds, q.most = b.l, b.s, b.w, b.anyCourse(d), d.IntN(2) == 0
		runs, _, _ := thaw.Course(b.l, b.s, q.kinds)
		q.looked = look(d, runs)
		questions = append(questions, q)
	}
	return questions
}

func TestR4Memory(t *testing.T) {
	for _, q := range someQuestions(dice()) {
		given, kept := q.copied(), q.copied()
		results := given.ask()
		if !reflect.DeepEqual(given.full(), kept.full()) {
			t.Fatal("an argument is changed:", given, kept)
		}
		if again := given.ask(); !reflect.DeepEqual(again, results) {
			t.Fatal("it is not the same again:", results, again)
		}
		for _, list := range results {
			for _, v := range list {
				spoil(reflect.ValueOf(v))
			}
		}
		if !reflect.DeepEqual(given.full(), kept.full()) {
			t.Fatal("a result shares memory with an argument:", given, kept)
		}
	}
}

// TestR4LaterChanges shows that what is written into an argument is not seen in a result, nor what is written into a result in another one.
func TestR4LaterChanges(t *testing.T) {
	q := usualQuestion()
	kept := fmt.Sprint(q.ask())
	results := q.ask()
	clear(q.w)
	clear(q.kinds)
	clear(q.looked)
	clear(q.groups)
	if got := fmt.Sprint(results); got != kept {
		t.Error("a result sees what is written into an argument:", got, kept)
	}
	again := usualQuestion().ask()
	for _, list := range results {
		for _, v := range list {
			spoil(reflect.ValueOf(v))
		}
	}
	if got := fmt.Sprint(again); got != kept {
		t.Error("a result sees what is written into another one:", got, kept)
	}
}

// TestR3NilAndEmpty asks with nil lists and with empty ones.
func TestR3NilAndEmpty(t *testing.T) {
	q := usualQuestion()
	q.w, q.kinds, q.looked, q.groups = nil, nil, nil, nil
	nils := fmt.Sprint(q.ask())
	q.w, q.kinds, q.looked, q.groups = []api.Range{}, []api.HourKind{}, []api.Seen{}, []api.TapGroup{}
	if got := fmt.Sprint(q.ask()); got != nils {
		t.Error("empty lists are not as nil ones:", got, nils)
	}
	sameFit(t, "nothing in no hours", usual(), state(0, 0), nil, seen(), -1, r(0, 0), api.OK)
	sameFit(t, "nothing in no hours", usual(), state(0, 0), set(), nil, -1, r(0, 0), api.OK)
}

// TestP4Examples has those of the chapter, and that of the document.
func TestP4Examples(t *testing.T) {
	runs, end, e := thaw.Course(usual(), state(0, 0), course(fr, fr, fr))
	sameList(t, "Course of three hours", runs, e, times(3, false), api.OK)
	same(t, "the end of three hours", end, e, state(5, 3), api.OK)
	runs, end, e = thaw.Course(usual(), state(0, 0), course(fr, fr, fr, th, th, th, th))
	sameList(t, "Course of seven hours", runs, e, append(times(5, false), true, true), api.OK)
	same(t, "the end of seven hours", end, e, state(3, 0), api.OK)
	for _, c := range []struct {
		t    api.Range
		want []api.HourKind
	}{{r(-20, 30), course(1, 2, 3)}, {one(20), course(2)}, {r(-10, 20), course(2)}, {r(20, 21), course(2, 3)}} {
		kinds, e := thaw.Kinds(usual(), c.t)
		sameList(t, fmt.Sprint("Kinds of ", c.t), kinds, e, c.want, api.OK)
	}
	all, e := thaw.Runs(usual(), state(0, 0), spring())
	same(t, "Runs", all, e, r(0, 2), api.OK)
	least, e := thaw.Extreme(usual(), state(0, 0), spring(), false)
	sameList(t, "Extreme for the least", least, e, course(2, 3, 3, 3, 3), api.OK)
	most, e := thaw.Extreme(usual(), state(0, 0), spring(), true)
	sameList(t, "Extreme for the greatest", most, e, course(1, 3, 3, 3, 3), api.OK)
	sameFirst(t, "spring", usual(), state(0, 0), spring(), [2]int{2, -1}, api.OK)
	sameFit(t, "spring", usual(), state(0, 0), spring(), seen(un, un, un, un, run), 4, r(0, 0), api.OK)
	gives, e := thaw.Gives(usual(), groups(group(10, 5000, 6000)))
	same(t, "Gives", gives, e, r(7500, 12800), api.OK)
	crop, e := thaw.Crop(usual(), groups(group(10, 5000, 6000)), r(0, 2))
	same(t, "Crop", crop, e, r(0, 25600), api.OK)
	missing, e := thaw.Missing(crop, 600)
	same(t, "Missing", missing, e, r(0, 25000), api.OK)
}
