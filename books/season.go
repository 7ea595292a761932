package books

import (
	"maps"
	"slices"

	"spile/api"
	"spile/span"
)

// Replay returns what a book comes to.
func Replay(l []api.BookEntry) (s api.BookState, at int, e api.Errno) {
	if e := checkBook(l); e != api.OK {
		return api.BookState{}, 0, e
	}
	all := season{barrels: map[int]contents{}}
	for i, x := range l {
		if e := all.happen(x); e != api.OK {
			return api.BookState{}, i, e
		}
	}
	return all.state(), 0, api.OK
}

// season is what has happened up to a day.
type season struct {
	day                      int
	tank, kettle             contents
	barrels                  map[int]contents
	gathered, spilt, shipped api.Sap
	steam                    int
}

// contents is the sap in the tank, in the kettle or in a barrel, and the bushes from which it comes.
type contents struct {
	api.Sap
	from bushes
}

// bushes tells for each number of a bush whether something comes from it.
type bushes [api.MaxBookBush + 1]bool

// happen does what a valid entry tells.
func (s *season) happen(x api.BookEntry) api.Errno {
	if x.Day < s.day {
		return api.ErrState
	}
	s.day = x.Day
	switch x.Kind {
	case api.BookGather:
		return s.gather(x.Sap, x.Item)
	case api.BookSpill:
		return s.spill(x.Grams)
	case api.BookBoil:
		return s.boil(x.Grams, x.Item)
	case api.BookFill:
		return s.fill(x.Grams, x.Item)
	case api.BookBlend:
		return s.blend(x.Item, x.Grams)
	}
	return s.ship(x.Item)
}

// gather puts the sap of a bush into the tank.
func (s *season) gather(sap api.Sap, bush int) api.Errno {
	// All that is anywhere was gathered: if this is not too much, nothing is.
	gathered, e := span.Mix([]api.Sap{s.gathered, sap})
	if e != api.OK {
		return e
	}
	s.gathered = gathered
	poured := contents{Sap: sap}
	poured.from[bush] = true
	s.tank.pour(poured)
	return api.OK
}

// spill loses grams of the tank.
func (s *season) spill(grams int) api.Errno {
	lost, e := s.tank.draw(grams)
	s.spilt = together(s.spilt, lost.Sap)
	return e
}

// boil boils grams of the tank, of which so much water goes off, into the kettle.
func (s *season) boil(grams, off int) api.Errno {
	boiled, e := s.tank.draw(grams)
	if e != api.OK {
		return e
	}
	if boiled.Water < off {
		return api.ErrState
	}
	boiled.Water -= off
	s.steam += off
	s.kettle.pour(boiled)
	return api.OK
}

// fill fills grams of the kettle into a new barrel.
func (s *season) fill(grams, number int) api.Errno {
	drawn, e := s.kettle.draw(grams)
	if e != api.OK {
		return e
	}
	barrel, there := s.barrels[number]
	if there {
		return api.ErrTwice
	}
	barrel.pour(drawn)
	s.barrels[number] = barrel
	return api.OK
}

// blend pours a barrel into another one.
func (s *season) blend(number, into int) api.Errno {
	if number == into {
		return api.ErrTwice
	}
	barrel, there := s.barrels[number]
	other, also := s.barrels[into]
	if !there || !also {
		return api.ErrNone
	}
	other.pour(barrel)
	s.barrels[into] = other
	delete(s.barrels, number)
	return api.OK
}

// ship ships a barrel.
func (s *season) ship(number int) api.Errno {
	barrel, there := s.barrels[number]
	if !there {
		return api.ErrNone
	}
	s.shipped = together(s.shipped, barrel.Sap)
	delete(s.barrels, number)
	return api.OK
}

// state returns what there is now.
func (s *season) state() api.BookState {
	now := api.BookState{
		Tank: s.tank.Sap, Kettle: s.kettle.Sap, TankFrom: s.tank.from.list(), KettleFrom: s.kettle.from.list(),
		Gathered: s.gathered, Spilt: s.spilt, Shipped: s.shipped, Steam: s.steam,
	}
	for _, number := range slices.Sorted(maps.Keys(s.barrels)) {
		barrel := s.barrels[number]
		now.Barrels = append(now.Barrels, api.BookBarrel{Number: number, Sap: barrel.Sap, From: barrel.from.list()})
	}
	return now
}

// draw draws grams.
func (c *contents) draw(grams int) (contents, api.Errno) {
	drawn, left, e := span.Draw(c.Sap, grams)
	if e != api.OK {
		return contents{}, e
	}
	taken := contents{drawn, c.from}
	c.Sap = left
	if left == (api.Sap{}) {
		c.from = bushes{}
	}
	return taken, api.OK
}

// pour adds what is poured in.
func (c *contents) pour(poured contents) {
	if poured.Sap == (api.Sap{}) {
		return // what is not even a gram brings no bush
	}
	c.Sap = together(c.Sap, poured.Sap)
	for bush, comes := range poured.from {
		c.from[bush] = c.from[bush] || comes
	}
}

// together returns all sap together, of which it is known that it is not too much.
func together(l ...api.Sap) api.Sap {
	all, _ := span.Mix(l)
	return all
}

// list returns the numbers of bushes in ascending order.
func (b bushes) list() []int {
	var l []int
	for bush, comes := range b {
		if comes {
			l = append(l, bush)
		}
	}
	return l
}
