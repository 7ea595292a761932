package pan

import "spile/api"

// stoves are all pans of a boil. Whatever truly happens in one of them, the grams that are moved to the next one are the same: so each goes its own way.
type stoves []stove

// Levels returns what can be in the pans, at the end of each minute.
func Levels(b api.Boil, start []api.Range) (levels [][]api.Range, at int, e api.Errno) {
	if e := checkStart(b, start); e != api.OK {
		return nil, 0, e
	}
	at, e = lit(b.Pans, start, 0).run(b, func(l stoves) {
		var now []api.Range
		for _, s := range l {
			now = append(now, s.level)
		}
		levels = append(levels, now)
	})
	if e != api.OK {
		return nil, at, e
	}
	return levels, 0, api.OK
}

// Trace returns what is in a pan, at the end of each minute, in a course.
func Trace(b api.Boil, start []api.Range, pan int, c api.PanCourse) (masses []int, at int, e api.Errno) {
	if _, at, e := Levels(b, start); e != api.OK {
		return nil, at, e
	}
	if !in(0, len(b.Pans)-1, pan) {
		return nil, 0, api.ErrNone
	}
	if len(c.Minutes) > b.Minutes {
		return nil, 0, api.ErrForm
	}
	if !in(start[pan].Low, start[pan].High, c.Start) {
		return nil, 0, api.ErrRange
	}
	s := stove{Pan: b.Pans[pan], number: pan, level: one(c.Start)}
	for minute, m := range c.Minutes {
		for _, a := range acts(b, minute) {
			s.heed(a)
		}
		if !s.change(m.In, s.fed(s.level)) || !s.change(-m.Off, s.boiled(s.level)) {
			return nil, minute, api.ErrState
		}
		masses = append(masses, s.level.Low)
	}
	return masses, 0, api.OK
}

// checkStart returns the error of a boil, and of what is in its pans at the start.
func checkStart(b api.Boil, start []api.Range) api.Errno {
	if e := Check(b); e != api.OK {
		return e
	}
	if len(start) != len(b.Pans) {
		return api.ErrForm
	}
	for i, a := range start {
		if !rangeIn(a, 0, b.Pans[i].Rim) {
			return api.ErrArg
		}
	}
	return api.OK
}

// lit returns the stoves of pans, with what is in them, and with a fire from the beginning.
func lit(pans []api.Pan, start []api.Range, fire int) stoves {
	var l stoves
	for i, p := range pans {
		l = append(l, stove{Pan: p, number: i, fire: fire, level: start[i]})
	}
	return l
}

// run boils, and tells at the end of each minute how the stoves stand, until the next one begins. With an error, at is the number of the act.
func (l stoves) run(b api.Boil, tell func(stoves)) (at int, e api.Errno) {
	for minute := range b.Minutes {
		for i := range l {
			l[i].before = l[i].level
		}
		for i, a := range acts(b, minute) {
			if e := l.refuse(a); e != api.OK {
				return i, e
			}
			l.heed(a)
		}
		for i := range l {
			l[i].ready, l[i].level = l[i].level, l[i].later(l[i].level)
		}
		tell(l)
	}
	return 0, api.OK
}

// refuse returns the error of an act.
func (l stoves) refuse(a api.PanAct) api.Errno {
	moves := a.Kind == api.PanMove
	if (moves || a.Kind == api.PanDraw) && l[a.Pan].level.Low < a.Amount {
		return api.ErrShort
	}
	if moves && l[a.Pan+1].level.High > l[a.Pan+1].Rim-a.Amount {
		return api.ErrSpill
	}
	return api.OK
}

// heed carries out an act.
func (l stoves) heed(a api.PanAct) {
	for i := range l {
		l[i].heed(a)
	}
}

// one returns the range of one number.
func one(n int) api.Range { return api.Range{Low: n, High: n} }
