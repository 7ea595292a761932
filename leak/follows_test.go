package leak_test

import (
	"fmt"
	"math/rand/v2"
	"slices"
	"testing"

	"spile/api"
	"spile/leak"
)

// truly returns watched tubing that leaks at so many nodes, as far as it has them, and reads ranges in which its vacuum truly is.
func truly(d *rand.Rand, nodes, count int) (w api.Watch, leaking []int) {
	w, _ = anyWatch(d, nodes)
	some := anyLeaks(d, w, count)
	for _, l := range some {
		leaking = append(leaking, l.Node)
	}
	vacuum := trueVacuum(w, truth(d, w.Flows), some)
	for i, s := range w.Sensors {
		x := vacuum[s.Node]
		w.Sensors[i].Reading = r(max(0, x-pick(d, 0, 5)), min(api.MaxVacuum, x+pick(d, 0, 5)))
	}
	slices.Sort(leaking)
	return w, leaking
}

// has reports whether a list is among others.
func has(all [][]int, l []int) bool {
	return slices.ContainsFunc(all, func(x []int) bool { return slices.Equal(x, l) })
}

func TestP5_9TheLeakIsInTheSet(t *testing.T) {
	d := dice()
	least, fewer := 0, 0
	for range 3000 {
		w, leaking := truly(d, pick(d, 2, 10), pick(d, 1, 2))
		what := fmt.Sprint(w, leaking)
		suspects, e := leak.Suspects(w, len(leaking))
		if e != api.OK || !has(suspects, leaking) {
			t.Fatal("not a suspect:", what, suspects, e)
		}
		count, places, e := leak.Places(w)
		if e != api.OK || count > len(leaking) {
			t.Fatal("Places:", what, count, places, e)
		}
		if count < len(leaking) {
			if all, e := leak.Suspects(w, count); e != api.OK || len(all) == 0 {
				t.Fatal("no suspects with fewer leaks:", what, count, all, e)
			}
			fewer++
			continue
		}
		least++
		for _, node := range leaking {
			if !slices.Contains(places, node) {
				t.Fatal("not among the places:", what, places)
			}
		}
	}
	if least < 500 || fewer < 500 {
		t.Error("too few of some kind:", least, fewer)
	}
}

// fits reports whether leaks fit, by Predict.
func fits(t *testing.T, w api.Watch, nodes, sizes []int) bool {
	t.Helper()
	var some []api.Leak
	for i, node := range nodes {
		some = append(some, at(node, sizes[i]))
	}
	vacuum, e := leak.Predict(w, some)
	if e != api.OK {
		t.Fatal("Predict", w, some, e)
	}
	for i, s := range w.Sensors {
		if max(vacuum[i].Low, s.Reading.Low) > min(vacuum[i].High, s.Reading.High) {
			return false
		}
	}
	return true
}

func TestP5_10SuspectsFit(t *testing.T) {
	d := dice()
	sets := 0
	for range 1000 {
		w, _ := anyWatch(d, pick(d, 1, 7))
		for count := range 3 {
			suspects, e := leak.Suspects(w, count)
			for _, nodes := range suspects {
				sizes, f := leak.Fits(w, nodes)
				if e != api.OK || f != api.OK || !fits(t, w, nodes, sizes) {
					t.Fatal("it does not fit:", w, nodes, sizes, e, f)
				}
				for _, smaller := range listsOf(w.Steps, count) {
					for i := range smaller {
						smaller[i]++
					}
					if slices.Compare(smaller, sizes) < 0 && fits(t, w, nodes, smaller) {
						t.Fatal("smaller ones fit:", w, nodes, sizes, smaller)
					}
				}
				sets++
			}
		}
	}
	if sets < 2000 {
		t.Error("too few sets:", sets)
	}
}

func TestP5_10Excuses(t *testing.T) {
	d := dice()
	without, with := 0, 0
	for range 1500 {
		w, _ := anyWatch(d, pick(d, 1, 7))
		suspects, e := leak.Suspects(w, 1)
		if e != api.OK {
			t.Fatal(w, e)
		}
		for node := range w.Net.Pipes {
			excuse, e := leak.Excuse(w, node)
			if has(suspects, list(node)) {
				without++
				sameList(t, "an excuse for a suspect", excuse, e, nil, api.ErrState)
				noExcuse(t, w, node)
				continue
			}
			with++
			if ok, f := leak.Excused(w, node, excuse); e != api.OK || f != api.OK || !ok {
				t.Fatal("no excuse:", w, node, excuse, e, ok, f)
			}
		}
	}
	if without < 500 || with < 500 {
		t.Error("too few of some kind:", without, with)
	}
}

// noExcuse reports a list of sensors that excuses a node, if there are not too many lists.
func noExcuse(t *testing.T, w api.Watch, node int) {
	t.Helper()
	for _, numbers := range listsOf(min(len(w.Sensors), 2), w.Steps) {
		if ok, e := leak.Excused(w, node, numbers); e != api.OK || ok {
			t.Fatal("excused:", w, node, numbers, ok, e)
		}
	}
}

// narrow returns a range in another one.
func narrow(d *rand.Rand, a api.Range) api.Range {
	x := pick(d, a.Low, a.High)
	return r(x, pick(d, x, a.High))
}

func TestP5_10Narrower(t *testing.T) {
	d := dice()
	less := 0
	for range 2000 {
		w, _ := anyWatch(d, pick(d, 1, 7))
		for i := range w.Sensors {
			w.Sensors[i].Reading.High = min(api.MaxVacuum, w.Sensors[i].Reading.High+20)
		}
		other := w
		other.Sensors, other.Flows = slices.Clone(w.Sensors), slices.Clone(w.Flows)
		if d.IntN(2) == 0 {
			for i, s := range w.Sensors {
				other.Sensors[i].Reading = narrow(d, s.Reading)
			}
		} else {
			for i, f := range w.Flows {
				other.Flows[i] = narrow(d, f)
			}
		}
		for count := range 3 {
			all, e := leak.Suspects(w, count)
			fewer, f := leak.Suspects(other, count)
			if e != api.OK || f != api.OK || slices.ContainsFunc(fewer, func(l []int) bool { return !has(all, l) }) {
				t.Fatal("one more:", w, other, all, fewer, e, f)
			}
			if len(fewer) < len(all) {
				less++
			}
		}
	}
	if less < 200 {
		t.Error("too few with fewer suspects:", less)
	}
}

// turns returns values between which it does not change which suspects allow them at a node.
func turns(t *testing.T, w api.Watch, node int) []int {
	t.Helper()
	all := list(0, api.MaxVacuum)
	for suspect := range w.Net.Pipes {
		for size := range w.Steps {
			v := lineVacuum(t, w, leaks(at(suspect, size+1)))[node]
			all = append(all, max(0, v.Low-1), v.Low, v.High, min(api.MaxVacuum, v.High+1))
		}
	}
	slices.Sort(all)
	return slices.Compact(all)
}

func TestP5_11OneMore(t *testing.T) {
	d := dice()
	asked, told := 0, 0
	for range 300 {
		w, _ := anyWatch(d, pick(d, 2, 7))
		node, left, e := leak.Next(w)
		if e == api.ErrNone || e == api.ErrFull {
			continue
		}
		before, f := leak.Suspects(w, 1)
		if e != api.OK || f != api.OK || left > len(before) {
			t.Fatal("Next", w, node, left, e, before, f)
		}
		asked++
		if left < len(before) {
			told++
		}
		for other := range w.Net.Pipes {
			if slices.ContainsFunc(w.Sensors, func(s api.Sensor) bool { return s.Node == other }) {
				continue
			}
			most := mostWith(t, w, other)
			if other == node && most != left || most < left || other < node && most == left {
				t.Fatal("a gauge tells something else:", w, node, left, other, most)
			}
		}
	}
	if asked < 150 || told < 70 {
		t.Error("too few of some kind:", asked, told)
	}
}

// mostWith returns the greatest number of nodes that can leak alone when a gauge at a node reads any single number.
func mostWith(t *testing.T, w api.Watch, node int) int {
	t.Helper()
	most := 0
	for _, value := range turns(t, w, node) {
		more := w
		more.Sensors = append(slices.Clone(w.Sensors), sensor(node, value, value))
		all, e := leak.Suspects(more, 1)
		if e != api.OK {
			t.Fatal(more, e)
		}
		most = max(most, len(all))
	}
	return most
}

// along returns the minutes of the ways to nodes one after another, by Path.
func along(t *testing.T, nodes int, l []api.Trail, from int, stops []int) int {
	t.Helper()
	all := 0
	for _, stop := range stops {
		_, minutes, e := leak.Path(nodes, l, from, stop)
		if e != api.OK {
			t.Fatal("Path", nodes, l, from, stop, e)
		}
		all, from = all+minutes, stop
	}
	return all
}

func TestP5_12ShortestWays(t *testing.T) {
	d := dice()
	over := 0
	for range 100 {
		nodes := pick(d, 1, 7)
		l := anyTrails(d, nodes, pick(d, nodes, 12))
		for a := range nodes {
			for b := range nodes {
				way, there, e := leak.Path(nodes, l, a, b)
				_, back, f := leak.Path(nodes, l, b, a)
				if there != back || e != f {
					t.Fatal("not as long the other way round:", nodes, l, a, b, there, back)
				}
				if e != api.OK {
					continue
				}
				same(t, "the minutes of a way", along(t, nodes, l, a, way), e, there, api.OK)
				for third := range nodes {
					_, first, e := leak.Path(nodes, l, a, third)
					_, second, f := leak.Path(nodes, l, third, b)
					if e == api.OK && f == api.OK && first+second < there {
						t.Fatal("shorter over a third node:", nodes, l, a, b, third)
					}
					over++
				}
			}
		}
	}
	if over < 2000 {
		t.Error("too few third nodes:", over)
	}
}

func TestP5_12ShortestWalks(t *testing.T) {
	d := dice()
	walks := 0
	for range 1000 {
		nodes := pick(d, 1, 8)
		l := anyTrails(d, nodes, pick(d, nodes, 14))
		from, stops := d.IntN(nodes), someOf(d, nodes, pick(d, 0, 6))
		order, minutes, e := leak.Walk(nodes, l, from, stops, false)
		round, all, f := leak.Walk(nodes, l, from, stops, true)
		if e != f {
			t.Fatal("Walk", nodes, l, from, stops, e, f)
		}
		if e != api.OK {
			continue
		}
		walks++
		what := fmt.Sprint(nodes, l, from, stops, order, minutes, round, all)
		same(t, "the minutes there: "+what, along(t, nodes, l, from, order), e, minutes, api.OK)
		same(t, "the minutes of a round: "+what, along(t, nodes, l, from, append(round, from)), e, all, api.OK)
		if all > 2*minutes || all < minutes {
			t.Fatal("the way back:", what)
		}
		for range 4 {
			d.Shuffle(len(stops), func(i, j int) { stops[i], stops[j] = stops[j], stops[i] })
			if along(t, nodes, l, from, stops) < minutes || along(t, nodes, l, from, append(slices.Clone(stops), from)) < all {
				t.Fatal("another order is shorter:", what, stops)
			}
		}
		if len(stops) > 0 {
			_, fewer, e := leak.Walk(nodes, l, from, stops[1:], false)
			_, rounds, f := leak.Walk(nodes, l, from, stops[1:], true)
			if e != api.OK || f != api.OK || fewer > minutes || rounds > all {
				t.Fatal("a stop more takes fewer minutes:", what, stops, fewer, rounds)
			}
		}
	}
	if walks < 400 {
		t.Error("too few walks:", walks)
	}
}

func TestP5_13Crews(t *testing.T) {
	d := dice()
	alone, earlier := 0, 0
	for range 3000 {
		nodes := pick(d, 1, 8)
		l := anyTrails(d, nodes, pick(d, nodes, 14))
		starts, stops, work := list(d.IntN(nodes)), someOf(d, nodes, pick(d, 0, 5)), pick(d, 0, 5)
		order, minutes, e := leak.Walk(nodes, l, starts[0], stops, false)
		rounds, latest, f := leak.Rounds(nodes, l, starts, stops, work)
		if e != f {
			t.Fatal("Rounds", nodes, l, starts, stops, e, f)
		}
		if e != api.OK {
			continue
		}
		alone++
		sameLists(t, "one crew alone", rounds, f, lists(order), api.OK)
		same(t, "when one crew is ready", latest, f, minutes+work*len(stops), api.OK)
		for range 2 {
			starts = append(starts, d.IntN(nodes))
			_, ready, e := leak.Rounds(nodes, l, starts, stops, work)
			if e != api.OK || ready > latest {
				t.Fatal("a crew more is ready later:", nodes, l, starts, stops, work, latest, ready, e)
			}
			if ready < latest {
				earlier++
			}
			latest = ready
		}
	}
	if alone < 1000 || earlier < 500 {
		t.Error("too few of some kind:", alone, earlier)
	}
}
