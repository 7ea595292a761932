package maker

import (
	"slices"

	"spile/api"
	"spile/candy"
)

// kitchen is the rules of candy, and the batch that is made.
type kitchen struct {
	candyRules setting[api.CandyRules]
	pot        *batch
}

// batch is sap, and what was done with it.
type batch struct {
	api.Sap
	acts []api.CandyAct
}

// candyrules sets the rules without products, and product adds one.
func (k *kitchen) candyrules() command {
	var r api.CandyRules
	return command{forms{&r.Elevation, &r.Solubility, &r.Base}, k.candyRules.set(func() (*api.CandyRules, api.Errno) {
		return &r, api.OK
	})}
}

func (k *kitchen) product() command {
	var p api.Product
	return command{forms{&p.Dense, &p.Start, &p.Stirred, &p.Seed, &p.Work}, k.candyRules.with(func(r *api.CandyRules) (answer, api.Errno) {
		return add(&r.Products, api.MaxProducts, unchecked, p)
	})}
}

// batch begins a batch.
func (k *kitchen) batch() command {
	var s api.Sap
	return command{forms{&s}, k.candyRules.with(func(r *api.CandyRules) (answer, api.Errno) {
		if _, _, e := candy.Make(*r, s, nil); e != api.OK {
			return nil, e
		}
		k.pot = &batch{Sap: s}
		return fine{}, api.OK
	})}
}

// work does something of a kind with the batch, and seed gives crystals to it.
func (k *kitchen) work(kind api.CandyActKind) command {
	a := api.CandyAct{Kind: kind}
	return command{forms{&a.Range}, func() (answer, api.Errno) { return k.treat(a) }}
}

func (k *kitchen) seed() command {
	a := api.CandyAct{Kind: api.CandySeed}
	return command{forms{&a.Mass}, func() (answer, api.Errno) { return k.treat(a) }}
}

// treat adds an act to the batch, and tells how dense it is then.
func (k *kitchen) treat(a api.CandyAct) (answer, api.Errno) {
	r, e := k.candyRules.get()
	if e != api.OK {
		return nil, e
	}
	if k.pot == nil {
		return nil, api.ErrState
	}
	acts := slices.Concat(k.pot.acts, []api.CandyAct{a})
	states, _, e := candy.Make(*r, k.pot.Sap, acts)
	if e != api.OK {
		return nil, e
	}
	k.pot.acts = acts
	return extent(states[len(states)-1].Dense), api.OK
}

// become tells what the batch can be, and yield how much there is of it.
func (k *kitchen) become() command {
	return k.made(func(r api.CandyRules, x api.CandyState) (answer, api.Errno) { return asList(candy.Products(r, x)) })
}

func (k *kitchen) yield() command {
	return k.made(func(_ api.CandyRules, x api.CandyState) (answer, api.Errno) {
		return asRange(candy.Yield(k.pot.Sap, x))
	})
}

// made tells something of the batch as it stands behind its last act.
func (k *kitchen) made(tell func(api.CandyRules, api.CandyState) (answer, api.Errno)) command {
	return command{run: k.candyRules.with(func(r *api.CandyRules) (answer, api.Errno) {
		if k.pot == nil || len(k.pot.acts) == 0 {
			return nil, api.ErrState
		}
		states, _, e := candy.Make(*r, k.pot.Sap, k.pot.acts)
		if e != api.OK {
			return nil, e
		}
		return tell(*r, states[len(states)-1])
	})}
}
