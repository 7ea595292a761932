package season

import (
	"slices"

	"spile/api"
)

// leftOut is the day of a bush that is left out.
const leftOut = -1

// moment is a set of bushes, as bits, that are still to be tapped, and a day on which the crew can begin with one.
type moment [2]int

// choice is the bush with which the crew begins at a moment, or leftOut if it waits, and the gain of all bushes from then on.
type choice struct {
	bush, gain int
}

// Plan returns when one crew taps several bushes.
func Plan(o api.Outlook, l []api.SeasonBush) (days []int, gain int, e api.Errno) {
	c, e := newCrew(o, l...)
	if e != api.OK {
		return nil, 0, e
	}
	return c.plan(), c.choose(c.begin()).gain, api.OK
}

// Worth returns what a plan gains.
func Worth(o api.Outlook, l []api.SeasonBush, days []int) (int, api.Errno) {
	c, e := newCrew(o, l...)
	if e != api.OK {
		return 0, e
	}
	if len(days) != len(l) {
		return 0, api.ErrForm
	}
	if !in(leftOut, c.days()-1, days...) {
		return 0, api.ErrRange
	}
	if c.clash(days) {
		return 0, api.ErrState
	}
	gain := 0
	for bush, day := range days {
		if day != leftOut {
			gain += c.worth(bush, day)
		}
	}
	return gain, api.OK
}

// checkBushes returns the error of bushes.
func checkBushes(l []api.SeasonBush) api.Errno {
	if len(l) > api.MaxBushes {
		return api.ErrLong
	}
	wrong := func(b api.SeasonBush) bool {
		return !in(0, api.MaxBushTaps, b.Taps) || !in(1, api.MaxSeasonDays, b.Work) || !in(0, 100, b.Percent)
	}
	if slices.ContainsFunc(l, wrong) {
		return api.ErrArg
	}
	return api.OK
}

// clash reports whether the crew would work at two bushes on the same day.
func (c *crew) clash(days []int) bool {
	for bush, day := range days {
		busy := func(other int) bool { return day <= other && other < day+c.bushes[bush].Work }
		rest := slices.Delete(slices.Clone(days), bush, bush+1)
		if day != leftOut && slices.ContainsFunc(rest, busy) {
			return true
		}
	}
	return false
}

// worth returns what a bush gains with which the crew begins on a day.
func (c *crew) worth(bush, day int) int {
	b := c.bushes[bush]
	from := day + b.Work
	if from >= c.days() {
		return 0
	}
	return c.weighed(c.gains(from)...) * b.Taps * b.Percent
}

// begin returns the moment before anything is done.
func (c *crew) begin() moment { return moment{1<<len(c.bushes) - 1, 0} }

// over reports whether the season is over.
func (c *crew) over(at moment) bool { return at[1] >= c.days() }

// plan returns a plan with the greatest gain: it makes the best choice at each moment.
func (c *crew) plan() []int {
	days := slices.Repeat([]int{leftOut}, len(c.bushes))
	for at := c.begin(); !c.over(at); {
		next := c.choose(at).bush
		if next != leftOut {
			days[next] = at[1]
		}
		at = c.after(at, next)
	}
	return days
}

// after returns the moment after the crew has waited for a day, or has tapped a bush.
func (c *crew) after(at moment, bush int) moment {
	if bush == leftOut {
		return moment{at[0], at[1] + 1}
	}
	return moment{at[0] &^ (1 << bush), at[1] + c.bushes[bush].Work}
}

// choose returns what is best at a moment. What was gained before does not matter for it.
func (c *crew) choose(at moment) (best choice) {
	if c.over(at) {
		return choice{bush: leftOut}
	}
	if known, ok := c.found[at]; ok {
		return known
	}
	defer func() { c.found[at] = best }()
	best = choice{leftOut, c.choose(c.after(at, leftOut)).gain}
	for bush := range c.bushes {
		if at[0]>>bush&1 == 0 {
			continue
		}
		if gain := c.worth(bush, at[1]) + c.choose(c.after(at, bush)).gain; gain > best.gain {
			best = choice{bush, gain}
		}
	}
	return best
}
