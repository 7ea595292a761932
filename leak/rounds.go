package leak

import (
	"iter"
	"math/bits"

	"spile/api"
)

// share is the stops of each crew, a bit for each stop.
type share [api.MaxCrews]int

// Rounds shares stops among crews.
func Rounds(nodes int, l []api.Trail, starts, stops []int, work int) (rounds [][]int, latest int, e api.Errno) {
	if e := checkRounds(nodes, l, starts, stops, work); e != api.OK {
		return nil, 0, e
	}
	t := newTour(newLand(nodes, l...), stops...)
	var best share
	latest, walked := far, far
	for s := range shares(len(starts), len(stops)) {
		ready, minutes := t.ready(starts, s, work)
		if ready < latest || ready == latest && minutes < walked {
			best, latest, walked = s, ready, minutes
		}
	}
	// With a stop that no crew can reach, none is ready before.
	if latest >= far {
		return nil, 0, api.ErrState
	}
	for crew, start := range starts {
		rounds = append(rounds, t.order(rest{from: start, stops: best[crew]}))
	}
	return rounds, latest, api.OK
}

// checkRounds returns the error of trails, crews, stops and work.
func checkRounds(nodes int, l []api.Trail, starts, stops []int, work int) api.Errno {
	if e := CheckTrails(nodes, l); e != api.OK {
		return e
	}
	if len(starts) > api.MaxCrews {
		return api.ErrLong
	}
	if len(starts) == 0 {
		return api.ErrForm
	}
	for _, start := range starts {
		if !in(start, 0, nodes-1) {
			return api.ErrNone
		}
	}
	if e := checkNodes(nodes, stops, api.MaxStops); e != api.OK {
		return e
	}
	if !in(work, 0, api.MaxMinutes) {
		return api.ErrRange
	}
	return api.OK
}

// shares yields all ways to give each stop to one crew, in ascending order of the lists of crews.
func shares(crews, stops int) iter.Seq[share] {
	return func(yield func(share) bool) {
		all := 1
		for range stops {
			all *= crews
		}
		for number := range all {
			// The digits of the number, to the base of the crews, are the list: the last digit is the crew of the last stop.
			var s share
			for stop := stops - 1; stop >= 0; stop-- {
				s[number%crews] |= 1 << stop
				number /= crews
			}
			if !yield(s) {
				return
			}
		}
	}
}

// ready returns when the last crew is ready, and how many minutes all crews walk together.
func (t *tour) ready(starts []int, s share, work int) (latest, walked int) {
	for crew, start := range starts {
		minutes := t.step(rest{from: start, stops: s[crew]}).minutes
		walked += minutes
		latest = max(latest, minutes+work*bits.OnesCount(uint(s[crew])))
	}
	return latest, walked
}
