package leak

import (
	"math"

	"spile/api"
)

// tour is stops on land that are walked to, the minutes from the last one to where the walk ends, and the steps that are known.
type tour struct {
	*land
	stops []int
	home  func(last int) int
	known map[rest]step
}

// rest is what is left of a walk: where it goes on from, and to which stops, a bit for each.
type rest struct {
	from, stops int
}

// step is what is left behind the next stop, and how many minutes all of it takes from before.
type step struct {
	next    rest
	minutes int
}

// Walk returns the shortest walk to all stops.
func Walk(nodes int, l []api.Trail, from int, stops []int, back bool) (order []int, minutes int, e api.Errno) {
	if e := CheckTrails(nodes, l); e != api.OK {
		return nil, 0, e
	}
	if !in(from, 0, nodes-1) {
		return nil, 0, api.ErrNone
	}
	if e := checkNodes(nodes, stops, api.MaxStops); e != api.OK {
		return nil, 0, e
	}
	t := newTour(newLand(nodes, l...), stops...)
	if back {
		t.home = func(last int) int { return t.all[last][from] }
	}
	all := rest{from: from, stops: 1<<len(stops) - 1}
	minutes = t.step(all).minutes
	if minutes >= far {
		return nil, 0, api.ErrState
	}
	return t.order(all), minutes, api.OK
}

// newTour returns a tour that ends at the last stop.
func newTour(d *land, stops ...int) *tour {
	return &tour{land: d, stops: stops, home: func(int) int { return 0 }, known: map[rest]step{}}
}

// step returns the step to the first one of the stops with which a rest takes the fewest minutes.
func (t *tour) step(r rest) step {
	if r.stops == 0 {
		return step{minutes: t.home(r.from)}
	}
	if known, ok := t.known[r]; ok {
		return known
	}
	best := step{minutes: math.MaxInt}
	for i, stop := range t.stops {
		if r.stops&(1<<i) == 0 {
			continue
		}
		next := rest{from: stop, stops: r.stops &^ (1 << i)}
		minutes := t.all[r.from][stop] + t.step(next).minutes
		if minutes < best.minutes || minutes == best.minutes && stop < best.next.from {
			best = step{next: next, minutes: minutes}
		}
	}
	t.known[r] = best
	return best
}

// order returns the stops of a rest in the order of the walk.
func (t *tour) order(r rest) []int {
	var order []int
	for r.stops != 0 {
		r = t.step(r).next
		order = append(order, r.from)
	}
	return order
}
