package thaw

import (
	"slices"

	"spile/api"
)

// day is the number of hours of a day.
const day = 24

// Runs returns the least and the greatest number of hours in which sap runs.
func Runs(r api.ThawRules, s api.ThawState, w []api.Range) (api.Range, api.Errno) {
	if e := Check(r, s, w); e != api.OK {
		return api.Range{}, e
	}
	b := &bush{r}
	return b.start(s).pass(w...).all(), api.OK
}

// Ends returns the states behind all courses.
func Ends(r api.ThawRules, s api.ThawState, w []api.Range) ([]api.ThawState, api.Errno) {
	if e := Check(r, s, w); e != api.OK {
		return nil, e
	}
	b := &bush{r}
	return slices.Collect(b.start(s).pass(w...).reached), api.OK
}

// Daily returns the least and the greatest number of hours of each day in which sap runs.
func Daily(r api.ThawRules, s api.ThawState, w []api.Range) ([]api.Range, api.Errno) {
	if e := Check(r, s, w); e != api.OK {
		return nil, e
	}
	b := &bush{r}
	var days []api.Range
	c := b.start(s)
	for hours := range slices.Chunk(w, day) {
		// A day begins with the states that the days before it leave, but with none of their hours.
		c = b.start(slices.Collect(c.reached)...).pass(hours...)
		days = append(days, c.all())
	}
	return days, api.OK
}

// First returns the first hour in which sap can run, and the first one by whose end it surely has run.
func First(r api.ThawRules, s api.ThawState, w []api.Range) (possibly, surely int, e api.Errno) {
	if e := Check(r, s, w); e != api.OK {
		return 0, 0, e
	}
	b := &bush{r}
	possibly = -1
	c := b.start(s)
	for hour, t := range w {
		c.pass(t)
		hours := c.all()
		if possibly < 0 && hours.High > 0 {
			possibly = hour
		}
		if hours.Low > 0 {
			return possibly, hour, api.OK
		}
	}
	return possibly, -1, api.OK
}

// Fits returns the first hour up to which no course fits what was seen, or -1; and how many hours sap runs on those that fit.
func Fits(r api.ThawRules, s api.ThawState, w []api.Range, l []api.Seen) (at int, hours api.Range, e api.Errno) {
	if e := Check(r, s, w); e != api.OK {
		return 0, api.Range{}, e
	}
	if len(l) != len(w) {
		return 0, api.Range{}, api.ErrForm
	}
	if slices.ContainsFunc(l, func(seen api.Seen) bool { return seen < api.SeenNothing || seen > api.SeenRun }) {
		return 0, api.Range{}, api.ErrArg
	}
	b := &bush{r}
	c := b.start(s)
	for hour, seen := range l {
		c.passSeen(w[hour], fitting(seen))
		if c.all() == none {
			return hour, api.Range{}, api.OK
		}
	}
	return -1, c.all(), api.OK
}
