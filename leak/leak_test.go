package leak_test

import (
	"fmt"
	"slices"
	"testing"

	"spile/api"
	"spile/leak"
	"spile/line"
)

// manySensors returns a long chain with so many sensors, from the pump on.
func manySensors(count int) api.Watch {
	w := chainWatch(30)
	for node := range count {
		w.Sensors = append(w.Sensors, sensor(node, 0, 10000))
	}
	return w
}

// watchCases are changes of the examples, and whether what is watched is valid then.
func watchCases() []struct {
	change func(w *api.Watch)
	want   api.Errno
} {
	return []struct {
		change func(w *api.Watch)
		want   api.Errno
	}{
		{func(w *api.Watch) {}, api.OK},
		{func(w *api.Watch) { *w = api.Watch{} }, api.ErrArg},
		{func(w *api.Watch) { w.Net.Pump = 10001 }, api.ErrArg},
		{func(w *api.Watch) { w.Net.Pump = -1 }, api.ErrArg},
		{func(w *api.Watch) { w.Net.Pipes[0].Parent = 0 }, api.ErrArg},
		{func(w *api.Watch) { w.Net.Pipes[3].Parent = 3 }, api.ErrArg},
		{func(w *api.Watch) { w.Net.Pipes[3].Bore = 3 }, api.ErrArg},
		{func(w *api.Watch) { w.Net.Pipes = nil }, api.ErrArg},
		{func(w *api.Watch) { w.Net = chain(61); w.Flows = make([]api.Range, 61) }, api.ErrArg},
		{func(w *api.Watch) { w.Net = chain(60); w.Flows = make([]api.Range, 60) }, api.OK},
		{func(w *api.Watch) { w.Flows = w.Flows[:4] }, api.ErrArg},
		{func(w *api.Watch) { w.Flows = append(w.Flows, one(0)) }, api.ErrArg},
		{func(w *api.Watch) { w.Flows = nil }, api.ErrArg},
		{func(w *api.Watch) { w.Flows[1].Low = -1 }, api.ErrArg},
		{func(w *api.Watch) { w.Flows[1].Low = 1 }, api.ErrArg},
		{func(w *api.Watch) { w.Frozen = list(4, 1, 2, 3) }, api.OK},
		{func(w *api.Watch) { w.Frozen = list(0) }, api.ErrArg},
		{func(w *api.Watch) { w.Frozen = list(5) }, api.ErrArg},
		{func(w *api.Watch) { w.Frozen = list(2, 1, 2) }, api.ErrArg},
		{func(w *api.Watch) { w.Sensors = nil }, api.OK},
		{func(w *api.Watch) { w.Sensors[0].Node = 0 }, api.OK},
		{func(w *api.Watch) { w.Sensors[0].Node = 4 }, api.OK},
		{func(w *api.Watch) { w.Sensors[0].Node = 5 }, api.ErrArg},
		{func(w *api.Watch) { w.Sensors[0].Node = -1 }, api.ErrArg},
		{func(w *api.Watch) { w.Sensors = append(w.Sensors, sensor(1, 0, 0), sensor(3, 0, 0)) }, api.ErrArg},
		{func(w *api.Watch) { w.Sensors = append(w.Sensors, w.Sensors[0]) }, api.ErrArg},
		{func(w *api.Watch) { w.Sensors = append(w.Sensors, sensor(1, 0, 0), sensor(5, 0, 0)) }, api.ErrArg},
		{func(w *api.Watch) { w.Sensors = append(w.Sensors, sensor(1, 2, 1)) }, api.ErrArg},
		{func(w *api.Watch) { w.Sensors = manySensors(5).Sensors }, api.OK},
		{func(w *api.Watch) { *w = manySensors(20) }, api.OK},
		{func(w *api.Watch) { *w = manySensors(21) }, api.ErrArg},
		{func(w *api.Watch) { w.Sensors[0].Reading = r(0, 10000) }, api.OK},
		{func(w *api.Watch) { w.Sensors[0].Reading = one(10000) }, api.OK},
		{func(w *api.Watch) { w.Sensors[0].Reading = one(0) }, api.OK},
		{func(w *api.Watch) { w.Sensors[0].Reading = r(-1, 10000) }, api.ErrArg},
		{func(w *api.Watch) { w.Sensors[0].Reading = r(0, 10001) }, api.ErrArg},
		{func(w *api.Watch) { w.Sensors[0].Reading = r(7961, 7960) }, api.ErrArg},
		{func(w *api.Watch) { w.Air = 0 }, api.ErrArg},
		{func(w *api.Watch) { w.Air = 1 }, api.OK},
		{func(w *api.Watch) { w.Air = 10000000 }, api.OK},
		{func(w *api.Watch) { w.Air = 10000001 }, api.ErrArg},
		{func(w *api.Watch) { w.Steps = 0 }, api.ErrArg},
		{func(w *api.Watch) { w.Steps = 1 }, api.OK},
		{func(w *api.Watch) { w.Steps = 12 }, api.OK},
		{func(w *api.Watch) { w.Steps = 13 }, api.ErrArg},
		{func(w *api.Watch) { w.Air, w.Steps = -1, -1 }, api.ErrArg},
		{func(w *api.Watch) { w.Flows[4] = one(1000000000 - 3*100000) }, api.OK},
		{func(w *api.Watch) { w.Flows[4] = r(0, 1000000000-3*100000) }, api.OK},
		{func(w *api.Watch) { w.Flows[4] = r(0, 1000000000-3*100000+1) }, api.ErrArg},
		{func(w *api.Watch) { w.Flows[0], w.Air, w.Steps = one(880000000), 10000000, 12 }, api.OK},
		{func(w *api.Watch) { w.Flows[0], w.Air, w.Steps = r(0, 880000001), 10000000, 12 }, api.ErrArg},
		{func(w *api.Watch) { w.Flows[0], w.Air, w.Steps = one(999999999), 1, 1 }, api.OK},
		{func(w *api.Watch) { w.Flows[0], w.Air, w.Steps = one(1000000000), 1, 1 }, api.ErrArg},
	}
}

func TestP5_1Check(t *testing.T) {
	for i, c := range watchCases() {
		w := usualWith(c.change)
		if e := leak.Check(w); e != c.want {
			t.Error("Check of the case", i, e, c.want)
		}
		if c.want != api.OK {
			continue
		}
		readings, e := leak.Predict(w, leaks(at(0, w.Steps)))
		if e != api.OK || len(readings) != len(w.Sensors) {
			t.Error("Predict of the case", i, readings, e)
		}
		if pairs, e := leak.Suspects(w, 2); e != api.OK || len(pairs) > len(w.Flows)*(len(w.Flows)-1)/2 {
			t.Error("Suspects of the case", i, pairs, e)
		}
	}
}

// TestP5_1WatchFirst shows that no error comes before that of what is watched.
func TestP5_1WatchFirst(t *testing.T) {
	for i, c := range watchCases() {
		if c.want == api.OK {
			continue
		}
		w := usualWith(c.change)
		for _, n := range []int{-1, 0, 1, 3, 100} {
			what := fmt.Sprint("the case ", i, " with ", n)
			readings, e := leak.Predict(w, leaks(at(n, n), at(n, n), at(n, n))[:max(0, min(n, 3))])
			sameList(t, "Predict of "+what, readings, e, nil, api.ErrArg)
			sizes, e := leak.Fits(w, list(n, n, n)[:max(0, min(n, 3))])
			sameList(t, "Fits of "+what, sizes, e, nil, api.ErrArg)
			suspects, e := leak.Suspects(w, n)
			sameLists(t, "Suspects of "+what, suspects, e, nil, api.ErrArg)
			excuse, e := leak.Excuse(w, n)
			sameList(t, "Excuse of "+what, excuse, e, nil, api.ErrArg)
			excused, e := leak.Excused(w, n, list(n, n))
			same(t, "Excused of "+what, excused, e, false, api.ErrArg)
		}
		samePlaces(t, fmt.Sprint("the case ", i), w, 0, nil, api.ErrArg)
		sameNext(t, fmt.Sprint("the case ", i), w, [2]int{}, api.ErrArg)
	}
}

func TestP5_1Predict(t *testing.T) {
	all := reading(sensor(4, 0, 0), sensor(0, 1, 2), sensor(2, 7, 9), sensor(3, 5, 5), sensor(1, 0, 0))
	frozen := all
	frozen.Frozen = list(3)
	for _, c := range []struct {
		w     api.Watch
		leaks []api.Leak
		want  []api.Range
	}{
		{usual(), nil, just(7994)},
		{usual(), leaks(at(1, 1)), just(7969)},
		{usual(), leaks(at(2, 1)), just(7969)},
		{usual(), leaks(at(3, 1)), just(7922)},
		{usual(), leaks(at(4, 1)), just(7922)},
		{usual(), leaks(at(0, 3)), just(7994)},
		{reading(), leaks(at(4, 3)), nil},
		{all, nil, just(7993, 8000, 7693, 7994, 7997)},
		// The loads of 1 are 111000 to 112000 and lose 28; those of 2 are 105000 to 106000, and lose 66 to 67.
		{all, leaks(at(2, 1)), set(one(7968), one(8000), r(7605, 7606), one(7969), one(7972))},
		{all, leaks(at(2, 1), at(4, 3)), set(one(7658), one(8000), r(7530, 7531), one(7753), one(7897))},
		{all, leaks(at(4, 3), at(2, 1)), set(one(7658), one(8000), r(7530, 7531), one(7753), one(7897))},
		// What leaks behind the frozen pipe is not felt before it, and there is no vacuum behind it.
		{frozen, nil, just(0, 8000, 7694, 0, 7998)},
		{frozen, leaks(at(4, 3), at(3, 3)), just(0, 8000, 7694, 0, 7998)},
		{frozen, leaks(at(3, 1), at(2, 1)), set(one(0), one(8000), r(7606, 7607), one(0), one(7973))},
	} {
		got, e := leak.Predict(c.w, c.leaks)
		sameList(t, fmt.Sprint("Predict ", c.w.Sensors, c.w.Frozen, c.leaks), got, e, c.want, api.OK)
	}
}

func TestP5_1PredictErrors(t *testing.T) {
	for _, c := range []struct {
		leaks []api.Leak
		want  api.Errno
	}{
		{leaks(at(0, 1), at(1, 1), at(2, 1)), api.ErrLong},
		{leaks(at(-1, 0), at(-1, 0), at(-1, 0)), api.ErrLong},
		{leaks(at(0, 1), at(4, 3)), api.OK},
		{leaks(at(5, 1)), api.ErrNone},
		{leaks(at(-1, 4)), api.ErrNone},
		{leaks(at(0, 1), at(5, 1)), api.ErrNone},
		{leaks(at(5, 1), at(5, 1)), api.ErrNone},
		{leaks(at(0, 1), at(0, 1)), api.ErrTwice},
		{leaks(at(4, 1), at(4, 4)), api.ErrTwice},
		{leaks(at(4, 1), at(4, 3)), api.ErrTwice},
		{leaks(at(4, 0)), api.ErrRange},
		{leaks(at(4, 4)), api.ErrRange},
		{leaks(at(4, -1)), api.ErrRange},
		{leaks(at(4, 0), at(4, 1)), api.ErrRange},
		{leaks(at(4, 4), at(5, 1)), api.ErrRange},
		{leaks(at(4, 1), at(3, 4)), api.ErrRange},
		{leaks(at(4, low), at(high, low)), api.ErrRange},
		{leaks(at(high, low), at(4, high)), api.ErrNone},
	} {
		got, e := leak.Predict(usual(), c.leaks)
		var want []api.Range
		if c.want == api.OK {
			want = just(7778)
		}
		sameList(t, fmt.Sprint("Predict ", c.leaks), got, e, want, c.want)
	}
}

func TestP5_1PredictAnything(t *testing.T) {
	d := dice()
	moved := 0
	for range 3000 {
		w, _ := anyWatch(d, pick(d, 1, 8))
		some := anyLeaks(d, w, pick(d, 0, 2))
		what := fmt.Sprint(w, some)
		got, e := leak.Predict(w, some)
		truths, byLine := vacuumOf(w, some), lineVacuum(t, w, some)
		var want, asked, without []api.Range
		for _, s := range w.Sensors {
			want, asked = append(want, truths[s.Node]), append(asked, byLine[s.Node])
			without = append(without, vacuumOf(w, nil)[s.Node])
		}
		sameList(t, "Predict "+what, got, e, want, api.OK)
		sameList(t, "by Vacuum: "+what, got, e, asked, api.OK)
		if !slices.Equal(got, without) {
			moved++
		}
	}
	if moved < 500 {
		t.Error("too few leaks that are felt:", moved)
	}
}

// TestP5_1PredictLargest has as much air as there can be.
func TestP5_1PredictLargest(t *testing.T) {
	w := chainWatch(60, sensor(1, 0, 0), sensor(59, 0, 0), sensor(30, 0, 0))
	w.Air, w.Steps = 10000000, 12
	for node := range w.Flows {
		w.Flows[node] = r(0, 880000000)
		w.Net.Pipes[node].Length = min(node, 1)
	}
	w.Net.Pipes[1].Bore = 80
	got, e := leak.Predict(w, leaks(at(59, 12), at(1, 12)))
	// All 59 flows, and the leaks, go through the first pipe.
	lost, _ := line.Loss(w.Net.Pipes[1], 59*880000000+2*120000000)
	few, _ := line.Loss(w.Net.Pipes[1], 2*120000000)
	sameList(t, "Predict", got, e, set(r(10000-lost, 10000-few), r(0, 8256), r(0, 9126)), api.OK)
}

// TestP5_2FitsLargest has flows with which the largest leaks are just still allowed.
func TestP5_2FitsLargest(t *testing.T) {
	w := chainFits(0, 10000)
	w.Air, w.Steps = 10000000, 12
	for node := range w.Flows {
		w.Flows[node] = one(880000000)
	}
	for _, c := range []struct {
		low, high int
		want      []int
		e         api.Errno
	}{
		// The flows take 8800 off the vacuum before 1, and all of it before 2.
		{0, 0, list(1, 1), api.OK},
		{1, 10000, nil, api.ErrState},
	} {
		w.Sensors[0].Reading = r(c.low, c.high)
		got, e := leak.Fits(w, list(2, 1))
		sameList(t, fmt.Sprint("Fits ", w), got, e, c.want, c.e)
	}
	w.Net.Pipes[1].Length, w.Net.Pipes[2].Length, w.Flows[1] = 1, 1, one(0)
	// A step takes off 2.5 in each pipe: from 9560 at the node 2, down to 9470 with both leaks in their greatest size.
	for _, c := range []struct {
		reading int
		want    []int
		e       api.Errno
	}{{9560, nil, api.ErrState}, {9470, list(12, 12), api.OK}, {9469, nil, api.ErrState}, {9472, list(12, 11), api.OK}, {9474, list(11, 12), api.OK}} {
		w.Sensors[0].Reading = one(c.reading)
		got, e := leak.Fits(w, list(2, 1))
		sameList(t, fmt.Sprint("Fits ", w), got, e, c.want, c.e)
	}
}

// chainFits is a chain of three nodes whose last one reads a range: a leak at 1 takes 1 off for each step, one at 2 takes off 2.
func chainFits(low, high int) api.Watch { return chainWatch(3, sensor(2, low, high)) }

func TestP5_2Fits(t *testing.T) {
	for _, c := range []struct {
		w     api.Watch
		nodes []int
		want  []int
		e     api.Errno
	}{
		{usual(), list(1), list(1), api.OK},
		{usual(), list(2), list(1), api.OK},
		{usual(), list(0), nil, api.ErrState},
		{usual(), list(3), nil, api.ErrState},
		{usual(), list(4), nil, api.ErrState},
		{usual(), nil, nil, api.ErrState},
		{reading(sensor(3, 7990, 8000)), nil, nil, api.OK},
		{reading(sensor(3, 7994, 7994)), nil, nil, api.OK},
		{reading(sensor(3, 7995, 7995)), nil, nil, api.ErrState},
		{reading(sensor(3, 7993, 7993)), nil, nil, api.ErrState},
		{reading(), nil, nil, api.OK},
		{reading(), list(4), list(1), api.OK},
		{reading(), list(4, 2), list(1, 1), api.OK},
		{usual(), list(0, 1), list(1, 1), api.OK},
		{usual(), list(1, 0), list(1, 1), api.OK},
		// The ranges of 2 are 7605 to 7606, and with a leak at 1 too 7580 to 7581: readings that touch them, and that miss them by one.
		{reading(sensor(2, 7606, 8000)), list(2), list(1), api.OK},
		{reading(sensor(2, 7607, 8000)), list(2), nil, api.ErrState},
		{reading(sensor(2, 7582, 7605)), list(2), list(1), api.OK},
		{reading(sensor(2, 7582, 7604)), list(2), nil, api.ErrState},
		{reading(sensor(2, 7581, 7604)), list(1, 2), list(1, 1), api.OK},
		// Several lists fit: they are compared in the order of the nodes that were told.
		{chainFits(9996, 9996), list(2), list(2), api.OK},
		{chainFits(9994, 9996), list(2), list(2), api.OK},
		{chainFits(9995, 9996), list(1, 2), list(1, 2), api.OK},
		{chainFits(9995, 9996), list(2, 1), list(1, 2), api.OK},
		{chainFits(9994, 9995), list(1, 2), list(1, 2), api.OK},
		{chainFits(9994, 9995), list(2, 1), list(1, 3), api.OK},
		{chainFits(9996, 9996), list(1, 2), list(2, 1), api.OK},
		{chainFits(9996, 9996), list(2, 1), list(1, 2), api.OK},
		{chainFits(9993, 9993), list(1, 2), list(1, 3), api.OK},
		{chainFits(9993, 9993), list(2, 1), list(2, 3), api.OK},
		{chainFits(9991, 9991), list(1, 2), list(3, 3), api.OK},
		{chainFits(9990, 9990), list(1, 2), nil, api.ErrState},
		{chainFits(9997, 9997), list(1, 2), list(1, 1), api.OK},
		{chainFits(9998, 9998), list(1, 2), nil, api.ErrState},
		{chainFits(9997, 9997), list(2), nil, api.ErrState},
		{chainFits(9995, 9995), list(2), nil, api.ErrState},
		// Only one of the leaks is felt.
		{chainFits(9998, 9998), list(0, 2), list(1, 1), api.OK},
		{chainFits(9996, 9996), list(2, 0), list(2, 1), api.OK},
		{chainFits(10000, 10000), list(2, 0), nil, api.ErrState},
		{chainFits(10000, 10000), list(0), list(1), api.OK},
	} {
		got, e := leak.Fits(c.w, c.nodes)
		sameList(t, fmt.Sprint("Fits ", c.w.Sensors, c.nodes), got, e, c.want, c.e)
	}
}

func TestP5_2FitsErrors(t *testing.T) {
	for _, c := range []struct {
		nodes []int
		want  api.Errno
	}{
		{list(0, 1, 2), api.ErrLong},
		{list(-1, -1, -1), api.ErrLong},
		{list(5), api.ErrNone},
		{list(-1), api.ErrNone},
		{list(5, 5), api.ErrNone},
		{list(0, 5), api.ErrNone},
		{list(0, high), api.ErrNone},
		{list(low, 0), api.ErrNone},
		{list(1, 1), api.ErrTwice},
		{list(4, 4), api.ErrTwice},
		{list(3, 4), api.ErrState},
	} {
		got, e := leak.Fits(usual(), c.nodes)
		sameList(t, fmt.Sprint("Fits ", c.nodes), got, e, nil, c.want)
	}
}

func TestP5_2FitsAnything(t *testing.T) {
	d := dice()
	none, several := 0, 0
	for range 12000 {
		w, leaking := anyWatch(d, pick(d, 1, 7))
		nodes := someOf(d, len(w.Net.Pipes), pick(d, 0, 2))
		if d.IntN(2) == 0 {
			nodes = nil
			for _, l := range leaking {
				nodes = append(nodes, l.Node)
			}
		}
		all := sizesOf(w, nodes)
		var want []int
		wantErr := api.ErrState
		if len(all) > 0 {
			want, wantErr = all[0], api.OK
		} else {
			none++
		}
		if len(all) > 1 && slices.Max(want) > 1 {
			several++
		}
		got, e := leak.Fits(w, nodes)
		sameList(t, fmt.Sprint("Fits ", w, nodes), got, e, want, wantErr)
	}
	if none < 500 || several < 100 {
		t.Error("too few that tell something:", none, several)
	}
}

// TestP5_2TwoGauges has two gauges, so that some sizes are too small for one of them and too great for the other one.
func TestP5_2TwoGauges(t *testing.T) {
	d := dice()
	none, some := 0, 0
	for range 10000 {
		w := chainWatch(4, sensor(1, 0, 0), sensor(3, 0, 0))
		w.Steps = pick(d, 1, 6)
		top := pick(d, 9986, 10000)
		w.Sensors[0].Reading = r(top, min(10000, top+pick(d, 0, 2)))
		bottom := pick(d, 9970, 9998)
		w.Sensors[1].Reading = r(bottom, bottom+pick(d, 0, 2))
		nodes := someOf(d, 4, 2)
		all := sizesOf(w, nodes)
		var want []int
		wantErr := api.ErrState
		if len(all) > 0 {
			want, wantErr = all[0], api.OK
			some++
		} else {
			none++
		}
		got, e := leak.Fits(w, nodes)
		sameList(t, fmt.Sprint("Fits ", w.Sensors, w.Steps, nodes), got, e, want, wantErr)
	}
	if none < 300 || some < 300 {
		t.Error("too few that tell something:", none, some)
	}
}
