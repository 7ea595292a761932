package pool

import "spile/api"

// pool is the shares of all members in what is delivered in a season, with the rules.
type pool struct {
	api.PoolRules
	shares []share
}

// share is the share of a member: who it is, the account, and how many grams of each sort were delivered.
type share struct {
	api.Member
	api.PoolAccount
	sorts sorts
}

// sorts is grams by their sorts: of each grade first those that are not organic, then those that are.
type sorts [2 * api.MaxGrades]int

// newPool returns the pool of rules and members that has accepted what it can of deliveries, or the number of the delivery with an error, and the error.
func newPool(r api.PoolRules, l []api.Member, deliveries ...api.Delivery) (p *pool, at int, e api.Errno) {
	if e := check(r, l); e != api.OK {
		return nil, 0, e
	}
	if len(deliveries) > api.MaxDeliveries {
		return nil, 0, api.ErrLong
	}
	p = &pool{PoolRules: r}
	for _, m := range l {
		p.shares = append(p.shares, share{Member: m})
	}
	for i, d := range deliveries {
		if e := p.take(d); e != api.OK {
			return nil, i, e
		}
	}
	p.accept()
	return p, 0, api.OK
}

// take adds a delivery to the share of its member.
func (p *pool) take(d api.Delivery) api.Errno {
	if !in(0, len(p.shares)-1, d.Member) {
		return api.ErrNone
	}
	broken, e := Practice(p.Organic, d.Practice)
	if e != api.OK || !in(0, len(p.Prices)-1, d.Grade) || !in(1, api.MaxDelivered, d.Mass) {
		return api.ErrArg
	}
	s := &p.shares[d.Member]
	if s.Delivered+d.Mass > api.MaxDelivered {
		return api.ErrOver
	}
	sort := 2 * d.Grade
	if d.Organic && s.Organic && broken == 0 {
		sort++
	}
	s.sorts[sort] += d.Mass
	s.Delivered += d.Mass
	s.In = min(s.Delivered, s.Quota)
	return api.OK
}

// accept meets what the pool needs: first out of the store, then of the excess.
func (p *pool) accept() {
	need := max(0, p.Demand-p.all(func(s share) int { return s.In }))
	released := min(need, p.all(share.before))
	admitted := min(need-released, p.all(share.excess))
	p.spread(released, share.before, func(s *share, n int) { s.Released = n })
	p.spread(admitted, share.excess, func(s *share, n int) { s.Admitted = n })
	for i := range p.shares {
		s := &p.shares[i]
		s.PoolAccount.Stored = s.before() - s.Released + s.excess() - s.Admitted
		s.Points = p.points(*s)
	}
}

// pay pays the members what is earned, but for the reserve.
func (p *pool) pay(revenue int) {
	points := func(s share) int { return s.Points }
	p.spread(revenue-p.reserve(revenue), points, func(s *share, n int) { s.Pay = n })
	for i := range p.shares {
		s := &p.shares[i]
		s.Advance = s.Points / kilogram * p.Advance / whole
		s.Levy = s.accepted() * p.Levy / kilogram
		s.Final = s.Pay - s.Advance - s.Levy
	}
}

// book returns the book of a season in which the members are paid.
func (p *pool) book(revenue int) api.PoolBook {
	reserve, paid := p.reserve(revenue), p.all(func(s share) int { return s.Pay })
	return api.PoolBook{
		Revenue: revenue,
		Reserve: reserve,
		Paid:    paid,
		Rest:    revenue - reserve - paid,
		Levies:  p.all(func(s share) int { return s.Levy }),
		Sold:    p.all(share.accepted) + p.all(func(s share) int { return s.Released }),
	}
}

// accounts returns the accounts of all members.
func (p *pool) accounts() []api.PoolAccount {
	var l []api.PoolAccount
	for _, s := range p.shares {
		l = append(l, s.PoolAccount)
	}
	return l
}

// reserve returns how much of what is earned is kept.
func (p *pool) reserve(revenue int) int { return revenue * p.Reserve / whole }

// points returns the points of a share.
func (p *pool) points(s share) int {
	points := s.Released * p.Released
	grams := portions(s.accepted(), s.sorts[:]...)
	for grade, price := range p.Prices {
		points += grams[2*grade]*price + grams[2*grade+1]*(price+p.Premium)
	}
	return points
}

// spread shares a number among the members by a number of each of them, and lets a call set what each one gets.
func (p *pool) spread(n int, by func(share) int, set func(s *share, portion int)) {
	for i, portion := range portions(n, p.numbers(by)...) {
		set(&p.shares[i], portion)
	}
}

// numbers returns a number of each share, and all their sum.
func (p *pool) numbers(ask func(share) int) []int {
	var l []int
	for _, s := range p.shares {
		l = append(l, ask(s))
	}
	return l
}

func (p *pool) all(ask func(share) int) int { return sum(p.numbers(ask)...) }

// before returns what lay in the store before the season, excess what was delivered beyond the quota, and accepted what was accepted of all that was delivered.
func (s share) before() int { return s.Member.Stored }

func (s share) excess() int { return s.Delivered - s.In }

func (s share) accepted() int { return s.In + s.Admitted }
