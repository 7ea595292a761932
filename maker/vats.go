package maker

import (
	"spile/api"
	"spile/vat"
)

// vats is the cellar.
type vats struct {
	cellar setting[vat.Cellar]
}

// tanks sets the cellar.
func (k *vats) tanks() command {
	var r api.VatRules
	var sizes []int
	return command{forms{&r.Growth, &r.Limit, &r.Film, &sizes}, k.cellar.set(func() (*vat.Cellar, api.Errno) { return vat.New(r, sizes) })}
}

// pour, draw, move, dump, wash and stay do with the cellar what their names say.
func (k *vats) pour() command {
	var tank int
	var s api.Sap
	var load api.Range
	return command{forms{&tank, &s, &load}, k.cellar.with(func(c *vat.Cellar) (answer, api.Errno) {
		return done(c.Pour(tank, s, load))
	})}
}

func (k *vats) draw() command {
	var tank, mass int
	return command{forms{&tank, &mass}, k.cellar.with(func(c *vat.Cellar) (answer, api.Errno) {
		d, e := c.Draw(tank, mass)
		return several{grams(d.Sap), extent(d.Load), extent(d.Age)}, e
	})}
}

func (k *vats) move() command {
	var from, to, mass int
	return command{forms{&from, &to, &mass}, k.cellar.with(func(c *vat.Cellar) (answer, api.Errno) {
		return done(c.Move(from, to, mass))
	})}
}

func (k *vats) dump() command {
	var tank int
	return command{forms{&tank}, k.cellar.with(func(c *vat.Cellar) (answer, api.Errno) { return asSap(c.Dump(tank)) })}
}

func (k *vats) wash() command {
	var tank int
	return command{forms{&tank}, k.cellar.with(func(c *vat.Cellar) (answer, api.Errno) { return done(c.Wash(tank)) })}
}

func (k *vats) stay() command {
	var hours int
	var temperature api.Range
	return command{forms{&hours, &temperature}, k.cellar.with(func(c *vat.Cellar) (answer, api.Errno) {
		return done(c.Stay(hours, temperature))
	})}
}

// tank tells what a tank holds, and balance where all sap is.
func (k *vats) tank() command {
	var tank int
	return command{forms{&tank}, k.cellar.with(func(c *vat.Cellar) (answer, api.Errno) {
		t, e := c.Tell(tank)
		return several{grams(t.Sap), number(t.Lots), extent(t.Load), extent(t.Film), number(t.Possibly), number(t.Surely)}, e
	})}
}

func (k *vats) balance() command {
	return command{run: k.cellar.with(func(c *vat.Cellar) (answer, api.Errno) {
		b, e := c.Book()
		return several{grams(b.In), grams(b.Out), grams(b.Lost), grams(b.Held)}, e
	})}
}

// rounds tells what a membrane keeps of sap, and what goes.
func (k *vats) rounds() command {
	var s api.Sap
	var take, pass, rounds int
	return command{forms{&s, &take, &pass, &rounds}, func() (answer, api.Errno) {
		kept, gone, e := vat.Rounds(s, take, pass, rounds)
		return several{grams(kept), grams(gone)}, e
	}}
}
