package pan

import (
	"slices"

	"spile/api"
)

// Dry returns the first pan that can run dry, when, and a course in which it does.
func Dry(b api.Boil, start []api.Range) (pan, minute int, c api.PanCourse, e api.Errno) {
	if e := checkStart(b, start); e != api.OK {
		return 0, 0, api.PanCourse{}, e
	}
	var story []stoves
	if _, e := lit(b.Pans, start, 0).run(b, func(l stoves) { story = append(story, slices.Clone(l)) }); e != api.OK {
		return 0, 0, api.PanCourse{}, e
	}
	for minute, l := range story {
		if pan := slices.IndexFunc(l, stove.dry); pan >= 0 {
			return pan, minute, lowest(story[:minute+1], pan), api.OK
		}
	}
	return 0, 0, api.PanCourse{}, api.ErrNone
}

// lowest returns a course of a pan that ends with the least that can be in it. It is found from its end, as less in the pan can let in more, and so does not always lead to less.
func lowest(story []stoves, pan int) api.PanCourse {
	c := api.PanCourse{Minutes: make([]api.PanMinute, len(story))}
	mass := story[len(story)-1][pan].level.Low
	for minute, l := range slices.Backward(story) {
		s := l[pan]
		mass, c.Minutes[minute] = s.back(mass)
		mass -= s.ready.Low - s.before.Low
	}
	c.Start = mass
	return c
}

// back returns what can have been in the pan after the acts, and what then happened, if so much is in it at the end of a minute.
func (s stove) back(mass int) (from int, m api.PanMinute) {
	full := nearest(s.fed(s.ready), mass+s.heat().Low)
	m.Off = full - mass
	for _, p := range s.parts(s.ready) {
		if p.Low <= p.High && in(p.Low+p.in.Low, p.High+p.in.High, full) {
			from = nearest(p.Range, full-p.in.Low)
		}
	}
	m.In = full - from
	return from, m
}

// nearest returns the number of a range that differs least from another one.
func nearest(a api.Range, n int) int { return min(max(n, a.Low), a.High) }

// Hottest returns the greatest fire with which no pan can run dry.
func Hottest(b api.Boil, start []api.Range) (int, api.Errno) {
	if e := checkStart(b, start); e != api.OK {
		return 0, e
	}
	if slices.ContainsFunc(b.Acts, func(a api.PanAct) bool { return a.Kind == api.PanFire }) {
		return 0, api.ErrForm
	}
	// A greater fire is not always worse: a pan below Low is fed more surely than one above it, and one with less runs over later.
	for fire := api.MaxFire; fire >= 0; fire-- {
		if safe(b, start, fire) {
			return fire, api.OK
		}
	}
	return 0, api.ErrNone
}

// safe reports whether a boil with a fire from the beginning has no error, and no pan that can run dry.
func safe(b api.Boil, start []api.Range, fire int) bool {
	dry := false
	_, e := lit(b.Pans, start, fire).run(b, func(l stoves) { dry = dry || slices.ContainsFunc(l, stove.dry) })
	return e == api.OK && !dry
}

// Steady returns a range that a pan never leaves.
func Steady(p api.Pan, fire int, start api.Range) (api.Range, api.Errno) {
	if !validPan(p) {
		return api.Range{}, api.ErrArg
	}
	if !in(0, api.MaxFire, fire) {
		return api.Range{}, api.ErrRange
	}
	if !rangeIn(start, 0, p.Rim) {
		return api.Range{}, api.ErrArg
	}
	s := stove{Pan: p, fire: fire, level: start}
	s.level = s.steady()
	if s.dry() {
		return api.Range{}, api.ErrState
	}
	return s.level, api.OK
}

// steady returns the least range with what is in the pan, and with all that a minute leads to from there.
func (s stove) steady() api.Range {
	r, heat := s.level, s.heat()
	for {
		switch next := s.later(r); {
		case next.Low < r.Low && heat.High > s.Least:
			// Below Low, what goes can be more than what comes: so it goes on until nothing is left.
			r.Low = 0
		case next.Low < r.Low:
			// The least is reached from Low, where nothing needs to come.
			r.Low = max(0, s.Low-heat.High)
		case next.High > r.High:
			// Below High, what comes can be more than what goes: the most is reached from just below High.
			r.High = s.High - 1 + s.Most - heat.Low
		default:
			return r
		}
	}
}
