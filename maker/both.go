package maker

import (
	"spile/api"
	"spile/barrel"
	"spile/leak"
	"spile/line"
	"spile/thaw"
)

// check tells the shortest walk to all places where tubing can leak.
func (m *Maker) check() command {
	var n name
	var air, steps, from int
	return command{forms{&n, &air, &steps, &from}, m.nets.with(&n, func(w *api.Watch) (answer, api.Errno) {
		_, nodes, e := leak.Places(leaking(*w, air, steps))
		if e != api.OK {
			return nil, e
		}
		return m.walked(from, nodes...)
	})}
}

// crop tells how much sap the taps of tubing give in the weather.
func (m *Maker) crop() command {
	var n name
	return command{forms{&n}, m.nets.with(&n, func(w *api.Watch) (answer, api.Errno) {
		r, e := m.thawRules.get()
		if e != api.OK {
			return nil, e
		}
		hours, e := thaw.Runs(*r, api.ThawState{}, m.hours)
		if e != api.OK {
			return nil, e
		}
		vacuums, e := line.Vacuum(w.Net, w.Flows, nil)
		if e != api.OK {
			return nil, e
		}
		return asRange(thaw.Crop(*r, tapped(w.Net, vacuums), hours))
	})}
}

// tapped returns the taps of tubing, node by node.
func tapped(n api.Net, vacuums []api.Range) []api.TapGroup {
	var groups []api.TapGroup
	for node, p := range n.Pipes {
		if p.Taps > 0 {
			groups = append(groups, api.TapGroup{Taps: p.Taps, Vacuum: vacuums[node]})
		}
	}
	return groups
}

// bring delivers a barrel to the pool.
func (m *Maker) bring() command {
	var d api.Delivery
	var n name
	return command{forms{&d.Member, &n}, m.barrels.with(&n, func(c *cask) (answer, api.Errno) {
		if c.brought {
			return nil, api.ErrTwice
		}
		if _, e := m.poolRules.get(); e != api.OK {
			return nil, e
		}
		grade, mass, e := m.sure(c.BarrelTest)
		if e != api.OK {
			return nil, e
		}
		d.Grade, d.Mass = grade, mass
		a, e := m.accept(d)
		c.brought = e == api.OK
		return a, e
	})}
}

// sure returns the grade of a barrel that has only one, and how many grams are surely in it.
func (k *shed) sure(t api.BarrelTest) (grade, mass int, e api.Errno) {
	r, e := k.gradeRules.get()
	if e != api.OK {
		return 0, 0, e
	}
	grades, e := barrel.Grades(*r, t)
	if e != api.OK {
		return 0, 0, e
	}
	if len(grades) != 1 || grades[0] == api.NoGrade {
		return 0, 0, api.ErrState
	}
	net, e := barrel.Net(*r, t)
	return grades[0], net.Low, e
}
