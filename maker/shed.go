package maker

import (
	"spile/api"
	"spile/barrel"
)

// shed is barrels, and the rules for their grades.
type shed struct {
	gradeRules setting[api.GradeRules]
	barrels    named[cask]
}

// cask is what was measured of a barrel, and whether it was brought to the pool.
type cask struct {
	api.BarrelTest
	brought bool
}

// grades sets the rules without classes, and class adds one.
func (k *shed) grades() command {
	var r api.GradeRules
	return command{forms{&r.Correction, &r.Density, &r.Bad, &r.Scale, &r.Price}, k.gradeRules.set(func() (*api.GradeRules, api.Errno) {
		return &r, api.OK
	})}
}

func (k *shed) class() command {
	var c api.GradeClass
	return command{forms{&c.Least, &c.Flavour, &c.Price}, k.gradeRules.with(func(r *api.GradeRules) (answer, api.Errno) {
		return add(&r.Classes, api.MaxGrades, unchecked, c)
	})}
}

// barrel adds a barrel without tasters, and taster adds one to its panel.
func (k *shed) barrel() command {
	var n name
	var c cask
	return command{forms{&n, &c.Gross, &c.Tare, &c.Hydro, &c.Temperature, &c.Light}, k.barrels.create(&n, func() (cask, answer, api.Errno) {
		return c, fine{}, api.OK
	})}
}

func (k *shed) taster() command {
	var n name
	var t api.Taster
	return command{forms{&n, &t.Flavour, &t.Sure, &t.Perhaps}, k.barrels.with(&n, func(c *cask) (answer, api.Errno) {
		return add(&c.Panel, api.MaxTasters, unchecked, t)
	})}
}

// grade tells the grades that a barrel can have, and worth what it is worth.
func (k *shed) grade() command {
	return k.judged(func(r api.GradeRules, t api.BarrelTest) (answer, api.Errno) { return asList(barrel.Grades(r, t)) })
}

func (k *shed) worth() command {
	return k.judged(func(r api.GradeRules, t api.BarrelTest) (answer, api.Errno) { return asRange(barrel.Worth(r, t)) })
}

// judged tells something of a barrel by the rules.
func (k *shed) judged(tell func(api.GradeRules, api.BarrelTest) (answer, api.Errno)) command {
	var n name
	return command{forms{&n}, k.barrels.with(&n, func(c *cask) (answer, api.Errno) {
		r, e := k.gradeRules.get()
		if e != api.OK {
			return nil, e
		}
		return tell(*r, c.BarrelTest)
	})}
}
