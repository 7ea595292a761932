package thaw

import "spile/api"

// counts are, for each charge and each ice, the least and the greatest number of hours in which sap has run on the courses that lead to this state.
type counts struct {
	*bush
	hours [api.MaxCharge + 1][api.MaxIce + 1]api.Range
}

// none is the count of a state to which no course leads. Its ends are beyond all others, so that it plays no part beside another count.
var none = api.Range{Low: api.MaxHours + 1, High: -1}

// start returns the counts of states on which no hour has come yet.
func (b *bush) start(states ...api.ThawState) *counts {
	c := &counts{bush: b}
	c.clear()
	for _, s := range states {
		c.add(s, api.Range{})
	}
	return c
}

// clear takes all courses away.
func (c *counts) clear() {
	for s := range c.states {
		c.hours[s.Charge][s.Ice] = none
	}
}

// at returns the count of a state.
func (c *counts) at(s api.ThawState) api.Range { return c.hours[s.Charge][s.Ice] }

// add adds courses that lead to a state.
func (c *counts) add(s api.ThawState, hours api.Range) {
	c.hours[s.Charge][s.Ice] = hull(c.at(s), hours)
}

// reached yields the states to which courses lead, in the same order.
func (c *counts) reached(yield func(api.ThawState) bool) {
	for s := range c.states {
		if c.at(s) != none && !yield(s) {
			return
		}
	}
}

// all returns the count of all courses.
func (c *counts) all() api.Range {
	hours := none
	for s := range c.reached {
		hours = hull(hours, c.at(s))
	}
	return hours
}

// pass lets hours pass of which nobody has seen anything, and returns the counts behind them.
func (c *counts) pass(w ...api.Range) *counts {
	for _, t := range w {
		c.passSeen(t, fitting(api.SeenNothing))
	}
	return c
}

// passSeen lets an hour pass; only the courses that fit go on.
func (c *counts) passSeen(t api.Range, fits func(runs bool) bool) {
	kinds := c.kinds(t)
	before := *c
	c.clear()
	for s := range before.reached {
		for _, k := range kinds {
			next, hours := c.after(s, k), before.at(s)
			runs := ran(s, next)
			if runs {
				hours.Low++
				hours.High++
			}
			if fits(runs) {
				c.add(next, hours)
			}
		}
	}
}

// fitting returns whether an hour in which sap runs, or does not, fits what was seen of it.
func fitting(seen api.Seen) func(runs bool) bool {
	return func(runs bool) bool {
		return seen == api.SeenNothing || runs == (seen == api.SeenRun)
	}
}

// hull returns the least range in which two ranges lie.
func hull(a, b api.Range) api.Range {
	return api.Range{Low: min(a.Low, b.Low), High: max(a.High, b.High)}
}
