package leak_test

import (
	"fmt"
	"slices"
	"testing"

	"spile/api"
	"spile/leak"
)

// sameSuspects asks Suspects.
func sameSuspects(t *testing.T, what string, w api.Watch, count int, want [][]int, wantErr api.Errno) {
	t.Helper()
	got, e := leak.Suspects(w, count)
	sameLists(t, fmt.Sprint("Suspects of ", count, ": ", what), got, e, want, wantErr)
}

// allPairs are all pairs of five nodes, in ascending order.
func allPairs() [][]int {
	return lists(list(0, 1), list(0, 2), list(0, 3), list(0, 4), list(1, 2), list(1, 3), list(1, 4), list(2, 3), list(2, 4), list(3, 4))
}

func TestP5_3Suspects(t *testing.T) {
	bare := reading()
	alone := api.Watch{Net: net(500), Flows: just(3), Air: 1, Steps: 1}
	read := alone
	read.Sensors = sensors(sensor(0, 499, 499))
	touched := alone
	touched.Sensors = sensors(sensor(0, 500, 600))
	for _, c := range []struct {
		name  string
		w     api.Watch
		count int
		want  [][]int
	}{
		{"the example", usual(), 0, nil},
		{"the example", usual(), 1, lists(list(1), list(2))},
		{"the example", usual(), 2, lists(list(0, 1), list(0, 2))},
		{"no leak", reading(sensor(3, 7990, 8000)), 0, lists(nil)},
		{"no leak", reading(sensor(3, 7990, 8000)), 1, lists(list(0))},
		{"no leak", reading(sensor(3, 7990, 8000)), 2, nil},
		{"no sensors", bare, 0, lists(nil)},
		{"no sensors", bare, 1, lists(list(0), list(1), list(2), list(3), list(4))},
		{"no sensors", bare, 2, allPairs()},
		{"too much for one", reading(sensor(3, 7945, 7945)), 1, nil},
		{"two of one size", reading(sensor(3, 7944, 7944)), 1, lists(list(1), list(2))},
		{"two of one size", reading(sensor(3, 7944, 7944)), 2, lists(list(0, 1), list(0, 2), list(1, 2))},
		{"a pump that reads too little", reading(sensor(0, 7999, 7999)), 2, nil},
		{"a pump that reads too much", reading(sensor(0, 8001, 9000)), 1, nil},
		{"a pump", reading(sensor(0, 7999, 8000)), 0, lists(nil)},
		{"a pump", reading(sensor(0, 7999, 8000)), 2, allPairs()},
		{"a pump alone", alone, 0, lists(nil)},
		{"a pump alone", alone, 1, lists(list(0))},
		{"a pump alone", alone, 2, nil},
		{"a pump that never reads this", read, 0, nil},
		{"a pump that never reads this", read, 1, nil},
		{"a pump that just reads this", touched, 1, lists(list(0))},
	} {
		sameSuspects(t, c.name, c.w, c.count, c.want, api.OK)
	}
}

func TestP5_3SuspectsErrors(t *testing.T) {
	for _, count := range []int{-1, 3, low, high} {
		sameSuspects(t, "a wrong number", usual(), count, nil, api.ErrRange)
	}
}

func TestP5_3Frozen(t *testing.T) {
	before := usualWith(func(w *api.Watch) { w.Frozen = list(4) })
	sameSuspects(t, "a leak behind a frozen pipe", before, 1, lists(list(1), list(2)), api.OK)
	// Only 1, 2 and 3 are felt at 3 then, and 4000 less flow from 4.
	felt := before
	felt.Sensors = sensors(sensor(3, 7923, 7923))
	sameSuspects(t, "a leak before a frozen pipe", felt, 1, lists(list(3)), api.OK)
	cut := usualWith(func(w *api.Watch) { w.Frozen = list(1) })
	sameSuspects(t, "a sensor behind a frozen pipe", cut, 1, nil, api.OK)
	cut.Sensors[0].Reading = r(0, 5)
	sameSuspects(t, "a sensor that reads nothing", cut, 1, lists(list(0), list(1), list(2), list(3), list(4)), api.OK)
	sameSuspects(t, "a sensor that reads nothing", cut, 2, allPairs(), api.OK)
	cut.Sensors[0].Reading = r(1, 5)
	sameSuspects(t, "a sensor that reads something", cut, 2, nil, api.OK)
}

func TestP5_3Places(t *testing.T) {
	samePlaces(t, "the example", usual(), 1, list(1, 2), api.OK)
	samePlaces(t, "no leak", reading(sensor(3, 7990, 8000)), 0, nil, api.OK)
	samePlaces(t, "no sensors", reading(), 0, nil, api.OK)
	samePlaces(t, "no place", reading(sensor(3, 7995, 8000)), 0, nil, api.ErrNone)
	samePlaces(t, "the pump of another vacuum", reading(sensor(0, 7000, 7999)), 0, nil, api.ErrNone)
	// 7992 to 7994 at the end of a chain is read with one leak at 3, or with two; a reading at 1 tells that it is not the one.
	w := chainWatch(4, sensor(3, 9994, 9994))
	samePlaces(t, "one is enough", w, 1, list(2, 3), api.OK)
	w.Sensors = append(w.Sensors, sensor(1, 9996, 9996))
	samePlaces(t, "two are needed", w, 2, list(1, 2, 3), api.OK)
	w.Sensors = append(w.Sensors, sensor(2, 9995, 9995))
	samePlaces(t, "which two", w, 2, list(1, 3), api.OK)
	w.Sensors[2].Reading = one(9996)
	samePlaces(t, "none at all", w, 0, nil, api.ErrNone)
}

func TestP5_3Anything(t *testing.T) {
	d := dice()
	var least [4]int
	for range 2500 {
		w, _ := anyWatch(d, pick(d, 1, 6))
		what := fmt.Sprint(w)
		leaks, nodes, wantErr := 3, []int(nil), api.ErrNone
		for count := 2; count >= 0; count-- {
			want := suspectsOf(w, count)
			sameSuspects(t, what, w, count, want, api.OK)
			if len(want) > 0 {
				leaks, nodes, wantErr = count, slices.Concat(want...), api.OK
			}
		}
		least[leaks]++
		slices.Sort(nodes)
		samePlaces(t, what, w, leaks%3, slices.Compact(nodes), wantErr)
	}
	if slices.Min(least[:]) < 50 {
		t.Error("too few of some kind:", least)
	}
}

// TestP5_3Large has as many nodes, sensors and sizes as there can be.
func TestP5_3Large(t *testing.T) {
	w := chainWatch(60)
	w.Steps = 12
	for i := range 20 {
		w.Sensors = append(w.Sensors, sensor(3*i+2, 0, 10000))
	}
	readings, _ := leak.Predict(w, leaks(at(20, 5), at(41, 12)))
	for i, reading := range readings {
		w.Sensors[i].Reading = reading
	}
	samePlaces(t, "a long chain", w, 2, list(20, 41), api.OK)
	sameSuspects(t, "a long chain", w, 2, lists(list(20, 41)), api.OK)
	sizes, e := leak.Fits(w, list(41, 20))
	sameList(t, "Fits of a long chain", sizes, e, list(12, 5), api.OK)
	w.Sensors = w.Sensors[:7]
	// Without the sensors from 20 on, anything that takes off 17 steps up to 20 does as well, but alone it can have 12 only.
	all, e := leak.Suspects(w, 2)
	if e != api.OK || len(all) != 40*39/2 || !slices.Equal(all[0], list(20, 21)) || !slices.Equal(all[779], list(58, 59)) {
		t.Error("Suspects of a long chain:", all, e)
	}
}

// byChain is a chain with two gauges that speak against leaks of different sizes.
func byChain() api.Watch { return chainWatch(3, sensor(1, 9999, 9999), sensor(2, 9996, 9997)) }

func TestP5_4Excuse(t *testing.T) {
	for _, c := range []struct {
		name string
		w    api.Watch
		node int
		want []int
		e    api.Errno
	}{
		{"the example", usual(), 0, list(0, 0, 0), api.OK},
		{"the example", usual(), 3, list(0, 0, 0), api.OK},
		{"the example", usual(), 4, list(0, 0, 0), api.OK},
		{"the example", usual(), 1, nil, api.ErrState},
		{"the example", usual(), 2, nil, api.ErrState},
		{"the example", usual(), 5, nil, api.ErrNone},
		{"the example", usual(), -1, nil, api.ErrNone},
		{"the example", usual(), low, nil, api.ErrNone},
		{"the example", usual(), high, nil, api.ErrNone},
		{"no sensors", reading(), 3, nil, api.ErrState},
		// With the sizes 1 to 3 it has 9999, 9998 and 9997 at 1, and 9998, 9996 and 9994 at 2.
		{"two gauges", byChain(), 2, list(1, 0, 0), api.OK},
		{"two gauges", byChain(), 1, list(1, 0, 0), api.OK},
		{"two gauges", byChain(), 0, list(0, 0, 0), api.OK},
		{"a gauge that fits the last size", chainWatch(3, sensor(1, 9997, 9997)), 2, nil, api.ErrState},
		{"three gauges", chainWatch(3, sensor(0, 10000, 10000), sensor(2, 9996, 9998), sensor(1, 9996, 9997)), 2, list(2, 2, 1), api.OK},
		{"both speak against it", chainWatch(3, sensor(2, 0, 0), sensor(1, 0, 0)), 2, list(0, 0, 0), api.OK},
	} {
		got, e := leak.Excuse(c.w, c.node)
		sameList(t, fmt.Sprint("Excuse of ", c.node, ": ", c.name), got, e, c.want, c.e)
	}
}

func TestP5_4Excused(t *testing.T) {
	three := chainWatch(3, sensor(0, 10000, 10000), sensor(2, 9996, 9998), sensor(1, 9996, 9997))
	for _, c := range []struct {
		name    string
		w       api.Watch
		node    int
		sensors []int
		want    bool
		e       api.Errno
	}{
		{"the example", usual(), 0, list(0, 0, 0), true, api.OK},
		{"the example", usual(), 4, list(0, 0, 0), true, api.OK},
		{"the example", usual(), 1, list(0, 0, 0), false, api.OK},
		{"the example", usual(), 5, list(0, 0, 0), false, api.ErrNone},
		{"the example", usual(), -1, list(0, 0, 0, 0), false, api.ErrNone},
		{"the example", usual(), high, list(3), false, api.ErrNone},
		{"the example", usual(), 0, nil, false, api.ErrForm},
		{"the example", usual(), 0, list(0, 0), false, api.ErrForm},
		{"the example", usual(), 0, list(0, 0, 0, 0), false, api.ErrForm},
		{"the example", usual(), 1, list(1, 1), false, api.ErrForm},
		{"the example", usual(), 0, list(0, 0, 1), false, api.ErrNone},
		{"the example", usual(), 0, list(-1, 0, 0), false, api.ErrNone},
		{"the example", usual(), 1, list(0, 0, 1), false, api.ErrNone},
		{"the example", usual(), 1, list(low, high, 0), false, api.ErrNone},
		{"no sensors", reading(), 3, list(0, 0, 0), false, api.ErrNone},
		{"no sensors", reading(), 3, nil, false, api.ErrForm},
		{"two gauges", byChain(), 2, list(1, 0, 0), true, api.OK},
		{"two gauges", byChain(), 2, list(1, 0, 1), true, api.OK},
		{"two gauges", byChain(), 2, list(1, 1, 0), false, api.OK},
		{"two gauges", byChain(), 2, list(0, 0, 0), false, api.OK},
		{"two gauges", byChain(), 2, list(1, 0, 2), false, api.ErrNone},
		{"three gauges", three, 2, list(2, 2, 1), true, api.OK},
		{"three gauges", three, 2, list(2, 2, 2), false, api.OK},
		{"three gauges", three, 2, list(2, 2, 0), false, api.OK},
	} {
		got, e := leak.Excused(c.w, c.node, c.sensors)
		same(t, fmt.Sprint("Excused ", c.node, c.sensors, ": ", c.name), got, e, c.want, c.e)
	}
}

func TestP5_4Anything(t *testing.T) {
	d := dice()
	excused, mixed := 0, 0
	for range 3000 {
		w, _ := anyWatch(d, pick(d, 1, 7))
		node := pick(d, 0, len(w.Net.Pipes)-1)
		what := fmt.Sprint(w, node)
		var want []int
		wantErr := api.OK
		for size := 1; size <= w.Steps; size++ {
			want = append(want, slices.IndexFunc(w.Sensors, func(s api.Sensor) bool { return !agrees(w, s, leaks(at(node, size))) }))
		}
		if slices.Contains(want, -1) {
			want, wantErr = nil, api.ErrState
		} else {
			excused++
		}
		if len(want) > 0 && slices.Max(want) > slices.Min(want) {
			mixed++
		}
		got, e := leak.Excuse(w, node)
		sameList(t, "Excuse "+what, got, e, want, wantErr)
		for range 3 {
			if len(w.Sensors) > 0 {
				sameExcused(t, w, node, randomSensors(d, w))
			}
		}
	}
	if excused < 300 || mixed < 30 {
		t.Error("too few excuses:", excused, mixed)
	}
}

// sameExcused asks Excused about valid numbers of sensors.
func sameExcused(t *testing.T, w api.Watch, node int, numbers []int) {
	t.Helper()
	want := true
	for i, number := range numbers {
		want = want && !agrees(w, w.Sensors[number], leaks(at(node, i+1)))
	}
	got, e := leak.Excused(w, node, numbers)
	same(t, fmt.Sprint("Excused ", w, node, numbers), got, e, want, api.OK)
}

func TestP5_5Next(t *testing.T) {
	full := reading(sensor(4, 0, 10000), sensor(0, 0, 10000), sensor(2, 0, 10000), sensor(3, 0, 10000), sensor(1, 0, 10000))
	none := full
	none.Sensors = slices.Clone(full.Sensors)
	none.Sensors[1].Reading = one(7999)
	// What comes into 2 is up to four steps: so 9997 is possible at each node, with any leak.
	wide := chainWatch(4, sensor(3, 0, 10000))
	wide.Flows[2] = r(0, 400000)
	// With the leaks at 0, 1 and 2 the last one has 9999 to 10000, 9998 to 9999, and 9997 to 9998.
	touching := chainWatch(3)
	touching.Flows[1], touching.Steps = r(0, 100000), 1
	for _, c := range []struct {
		name string
		w    api.Watch
		want [2]int
		e    api.Errno
	}{
		{"the example", usual(), [2]int{2, 1}, api.OK},
		{"the two behind", reading(sensor(3, 7922, 7922)), [2]int{4, 1}, api.OK},
		{"a single suspect", reading(sensor(3, 7990, 8000)), [2]int{0, 1}, api.OK},
		{"a single suspect, and a sensor at the pump", reading(sensor(0, 0, 10000), sensor(3, 7990, 8000)), [2]int{1, 1}, api.OK},
		{"no suspect", reading(sensor(3, 7995, 8000)), [2]int{}, api.ErrNone},
		{"sensors everywhere", full, [2]int{}, api.ErrFull},
		{"no suspect, and sensors everywhere", none, [2]int{}, api.ErrNone},
		{"a pump alone", api.Watch{Net: net(500), Flows: just(3), Air: 1, Steps: 1}, [2]int{0, 1}, api.OK},
		// At the end of a chain 9997 is read with the size 3 at 1, and with 1 at 3; 9998 with 2 at 1, and with 1 at 2; 9996 with 2 at 2, 9994 with 3 at 2 and 2 at 3.
		{"a chain", chainWatch(4), [2]int{3, 2}, api.OK},
		{"wide flows", wide, [2]int{0, 4}, api.OK},
		{"ranges that touch", touching, [2]int{2, 2}, api.OK},
	} {
		sameNext(t, c.name, c.w, c.want, c.e)
	}
}

// nextOf looks at each value at each node without a sensor.
func nextOf(w api.Watch) (node, left int, e api.Errno) {
	suspects := suspectsOf(w, 1)
	if len(suspects) == 0 {
		return 0, 0, api.ErrNone
	}
	left = 100
	for at := range w.Net.Pipes {
		if slices.ContainsFunc(w.Sensors, func(s api.Sensor) bool { return s.Node == at }) {
			continue
		}
		if most := mostAllowed(w, suspects, at); most < left {
			node, left = at, most
		}
	}
	if left == 100 {
		return 0, 0, api.ErrFull
	}
	return node, left, api.OK
}

// mostAllowed counts for each value at a node by how many suspects it is allowed.
func mostAllowed(w api.Watch, suspects [][]int, node int) int {
	counts := map[int]int{}
	for _, suspect := range suspects {
		allowed := map[int]bool{}
		for _, sizes := range sizesOf(w, suspect) {
			v := vacuumOf(w, leaks(at(suspect[0], sizes[0])))[node]
			for value := v.Low; value <= v.High; value++ {
				allowed[value] = true
			}
		}
		for value := range allowed {
			counts[value]++
		}
	}
	most := 0
	for _, count := range counts {
		most = max(most, count)
	}
	return most
}

func TestP5_5Anything(t *testing.T) {
	d := dice()
	var told [3]int
	for range 2500 {
		w, _ := anyWatch(d, pick(d, 1, 7))
		node, left, e := nextOf(w)
		sameNext(t, fmt.Sprint(w), w, [2]int{node, left}, e)
		suspects := len(suspectsOf(w, 1))
		switch {
		case e == api.OK && left == suspects:
			told[0]++
		case e == api.OK && left > 1:
			told[1]++
		case e == api.OK:
			told[2]++
		}
	}
	if slices.Min(told[:]) < 100 {
		t.Error("too few of some kind:", told)
	}
}
