package maker

import (
	"spile/api"
	"spile/pool"
)

// cooperative is the pool: its rules, its members, and what they deliver.
type cooperative struct {
	poolRules  setting[api.PoolRules]
	members    []api.Member
	deliveries []api.Delivery
}

// poolrules sets the rules.
func (k *cooperative) poolrules() command {
	var r api.PoolRules
	o := &r.Organic
	return command{forms{&r.Prices, &r.Premium, &r.Released, &r.Demand, &r.Levy, &r.Reserve, &r.Advance, &o.Taps, &o.Others, &o.Oils, &o.Cleaners}, k.poolRules.set(func() (*api.PoolRules, api.Errno) {
		return &r, pool.CheckPool(r)
	})}
}

// member adds a member.
func (k *cooperative) member() command {
	var m api.Member
	var sort string
	return command{forms{&m.Quota, &m.Stored, &sort}, k.poolRules.with(func(*api.PoolRules) (answer, api.Errno) {
		if sort != "organic" && sort != "plain" {
			return nil, api.ErrForm
		}
		m.Organic = sort == "organic"
		return add(&k.members, endless, pool.CheckMembers, m)
	})}
}

// deliver adds a delivery, and organic an organic one.
func (k *cooperative) deliver() command {
	var d api.Delivery
	return command{forms{&d.Member, &d.Grade, &d.Mass}, func() (answer, api.Errno) { return k.accept(d) }}
}

func (k *cooperative) organic() command {
	d := api.Delivery{Organic: true}
	p := &d.Practice
	return command{forms{&d.Member, &d.Grade, &d.Mass, &p.Trees, &p.Taps, &p.Others, &p.Oils, &p.Cleaners}, func() (answer, api.Errno) {
		return k.accept(d)
	}}
}

// accept adds a delivery that the pool accepts.
func (k *cooperative) accept(d api.Delivery) (answer, api.Errno) {
	r, e := k.poolRules.get()
	if e != api.OK {
		return nil, e
	}
	return add(&k.deliveries, endless, func(all []api.Delivery) api.Errno {
		_, _, e := pool.Accept(*r, k.members, all)
		return e
	}, d)
}

// settle tells what each member gets at last of a revenue, and what rests.
func (k *cooperative) settle() command {
	var revenue int
	return command{forms{&revenue}, k.poolRules.with(func(r *api.PoolRules) (answer, api.Errno) {
		accounts, book, _, e := pool.Settle(*r, k.members, k.deliveries, revenue)
		var finals numbers
		for _, a := range accounts {
			finals = append(finals, a.Final)
		}
		return several{finals, number(book.Rest)}, e
	})}
}
