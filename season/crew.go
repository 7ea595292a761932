package season

import (
	"slices"

	"spile/api"
)

// crew taps bushes by an outlook, of which it knows what a tap gains: for each scenario, on each day. What it has found out about its plans is kept by moments.
type crew struct {
	api.Outlook
	taps   [][]int
	bushes []api.SeasonBush
	found  map[moment]choice
}

// newCrew returns the crew of an outlook and of bushes, or their error.
func newCrew(o api.Outlook, bushes ...api.SeasonBush) (*crew, api.Errno) {
	if e := Check(o); e != api.OK {
		return nil, e
	}
	if e := checkBushes(bushes); e != api.OK {
		return nil, e
	}
	c := &crew{Outlook: o, bushes: bushes, found: map[moment]choice{}}
	for _, s := range c.Scenarios {
		c.taps = append(c.taps, c.tapped(s.Runs))
	}
	return c, api.OK
}

// crewOn returns the crew of an outlook, or the error of the outlook or of a day.
func crewOn(o api.Outlook, day int) (*crew, api.Errno) {
	c, e := newCrew(o)
	if e != api.OK {
		return nil, e
	}
	if !in(0, c.days()-1, day) {
		return nil, api.ErrRange
	}
	return c, api.OK
}

// days returns how many days the season has.
func (c *crew) days() int { return len(c.Scenarios[0].Runs) }

// tapped returns for each day what a tap gains of runs if it is tapped on this day.
func (c *crew) tapped(runs []int) []int {
	gains, gain := make([]int, len(runs)), 0
	for day, run := range slices.Backward(runs) {
		gain += run
		if dry := day + c.Life; dry < len(runs) {
			gain -= runs[dry]
		}
		gains[day] = gain
	}
	return gains
}

// gains returns what a tap gains in each scenario if it is tapped on a day, and losses what it loses.
func (c *crew) gains(day int) []int {
	var l []int
	for _, gains := range c.taps {
		l = append(l, gains[day])
	}
	return l
}

func (c *crew) losses(day int) []int {
	var l []int
	for _, gains := range c.taps {
		l = append(l, slices.Max(gains)-gains[day])
	}
	return l
}

// weighed returns the sum of one number for each scenario, each times its weight.
func (c *crew) weighed(numbers ...int) int {
	sum := 0
	for i, n := range numbers {
		sum += c.Scenarios[i].Weight * n
	}
	return sum
}

// least returns the first one of the days whose losses weigh least, and what they weigh.
func (c *crew) least(weigh func(losses ...int) int) (day, weight int) {
	for d := range c.days() {
		if w := weigh(c.losses(d)...); d == 0 || w < weight {
			day, weight = d, w
		}
	}
	return day, weight
}

// proof returns for each day the first scenario in which it loses at least so much.
func (c *crew) proof(loss int) []int {
	var proof []int
	for day := range c.days() {
		proof = append(proof, slices.IndexFunc(c.losses(day), func(n int) bool { return n >= loss }))
	}
	return proof
}

// first returns the first day for which a condition holds, or -1.
func (c *crew) first(holds func(day int) bool) int {
	for day := range c.days() {
		if holds(day) {
			return day
		}
	}
	return -1
}

// beats reports whether a day gains at least as much as another one in each scenario, and more in some.
func (c *crew) beats(day, other int) bool {
	more := false
	for _, gains := range c.taps {
		if gains[day] < gains[other] {
			return false
		}
		more = more || gains[day] > gains[other]
	}
	return more
}
