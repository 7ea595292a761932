package maker

import (
	"spile/api"
	"spile/trunk"
)

// grove is trees, and the rules for their taps.
type grove struct {
	tapRules setting[api.TapRules]
	trees    named[api.Tree]
}

// taprules sets the rules.
func (k *grove) taprules() command {
	var r api.TapRules
	var sizes []api.Row
	var healths []int
	return command{forms{&r.Side, &r.Up, &r.Heal, &r.Apart, &r.Between, &sizes, &healths, &r.Open}, k.tapRules.set(func() (*api.TapRules, api.Errno) {
		if len(healths) != len(r.Healths) {
			return nil, api.ErrForm
		}
		copy(r.Healths[:], healths)
		for _, row := range sizes {
			r.Sizes = append(r.Sizes, api.Size{Girth: row.X, Taps: row.Y})
		}
		return &r, trunk.CheckRules(r)
	})}
}

// tree adds a tree, and hole a hole to one.
func (k *grove) tree() command {
	var n name
	var t api.Tree
	return command{forms{&n, &t.Year, &t.Girth, &t.Grow, &t.Health}, k.trees.create(&n, func() (api.Tree, answer, api.Errno) {
		return t, fine{}, trunk.CheckTree(t)
	})}
}

func (k *grove) hole() command {
	var n name
	var h api.Hole
	return command{forms{&n, &h.Year, &h.Spot.Angle, &h.Spot.Height}, k.trees.with(&n, func(t *api.Tree) (answer, api.Errno) {
		holed := *t
		return add(&t.Holes, api.MaxHoles, func(all []api.Hole) api.Errno {
			holed.Holes = all
			return trunk.CheckTree(holed)
		}, h)
	})}
}

// taps tells how many taps a tree may have.
func (k *grove) taps() command {
	var n name
	var year int
	return command{forms{&n, &year}, k.ruled(&n, func(t *api.Tree, r *api.TapRules) (answer, api.Errno) {
		return asRange(trunk.Taps(*t, *r, year))
	})}
}

// free tells which angles are free.
func (k *grove) free() command {
	var n name
	var year, height int
	return command{forms{&n, &year, &height}, k.ruled(&n, func(t *api.Tree, r *api.TapRules) (answer, api.Errno) {
		return asRanges(trunk.Free(*t, *r, year, height))
	})}
}

// drill drills taps into a tree.
func (k *grove) drill() command {
	var n name
	var year, height, taps int
	return command{forms{&n, &year, &height, &taps}, k.ruled(&n, func(t *api.Tree, r *api.TapRules) (answer, api.Errno) {
		spots, e := trunk.Spots(*t, *r, year, height, taps)
		if e != api.OK {
			return nil, e
		}
		at, _, e := trunk.Keeps(*t, *r, year, spots)
		if e != api.OK {
			return nil, e
		}
		if at >= 0 {
			return nil, api.ErrState
		}
		drilled, e := trunk.Drill(*t, year, spots)
		if e != api.OK {
			return nil, e
		}
		*t = drilled
		return angles(spots), api.OK
	})}
}

// rota tells where the taps of several years are.
func (k *grove) rota() command {
	var n name
	var first, taps, count int
	var heights []int
	return command{forms{&n, &first, &taps, &heights, &count}, k.ruled(&n, func(t *api.Tree, r *api.TapRules) (answer, api.Errno) {
		plan, _, e := trunk.Rota(*t, *r, first, taps, heights, count)
		var all years
		for _, spots := range plan {
			all = append(all, angles(spots))
		}
		return all, e
	})}
}

// ruled returns what does something with a tree by the rules.
func (k *grove) ruled(n *name, do func(*api.Tree, *api.TapRules) (answer, api.Errno)) func() (answer, api.Errno) {
	return k.trees.with(n, func(t *api.Tree) (answer, api.Errno) {
		r, e := k.tapRules.get()
		if e != api.OK {
			return nil, e
		}
		return do(t, r)
	})
}

// angles returns the angles of spots.
func angles(spots []api.Spot) numbers {
	var l numbers
	for _, s := range spots {
		l = append(l, s.Angle)
	}
	return l
}
