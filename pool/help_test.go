package pool_test

import (
	"fmt"
	"math/big"
	"math/rand/v2"
	"slices"
	"testing"

	"spile/api"
	"spile/pool"
)

const (
	low  = -1 << 63
	high = 1<<63 - 1
)

func list(l ...int) []int { return l }

// times returns a list of so many equal things.
func times[T any](n int, x T) []T { return slices.Repeat([]T{x}, n) }

// member returns a member who is not organic, organic one who is, and members returns several ones.
func member(quota, stored int) api.Member { return api.Member{Quota: quota, Stored: stored} }

func organic(quota, stored int) api.Member {
	return api.Member{Quota: quota, Stored: stored, Organic: true}
}

func members(l ...api.Member) []api.Member { return l }

// lease returns a lease, and leases returns several ones.
func lease(from, to, mass int) api.Lease { return api.Lease{From: from, To: to, Mass: mass} }

func leases(l ...api.Lease) []api.Lease { return l }

// kept is a practice that keeps the organic rules of the chapter's examples, though only just.
func kept() api.Practice {
	return api.Practice{Trees: 100, Taps: 200, Others: 20, Oils: 1, Cleaners: 3}
}

// plain returns a delivery that is not organic, green one that is called so, and deliveries returns several ones.
func plain(member, grade, mass int) api.Delivery {
	return api.Delivery{Member: member, Grade: grade, Mass: mass, Practice: kept()}
}

func green(member, grade, mass int) api.Delivery {
	return api.Delivery{Member: member, Grade: grade, Mass: mass, Organic: true, Practice: kept()}
}

func deliveries(l ...api.Delivery) []api.Delivery { return l }

// season returns a season, and seasons returns several ones.
func season(demand, revenue int, l ...api.Delivery) api.PoolSeason {
	return api.PoolSeason{Demand: demand, Deliveries: l, Revenue: revenue}
}

func seasons(l ...api.PoolSeason) []api.PoolSeason { return l }

// account returns what Accept tells of a member, and paid the same with what Settle tells.
func account(delivered, in, admitted, released, stored, points int) api.PoolAccount {
	return api.PoolAccount{Delivered: delivered, In: in, Admitted: admitted, Released: released, Stored: stored, Points: points}
}

func paid(a api.PoolAccount, pay, advance, levy, final int) api.PoolAccount {
	a.Pay, a.Advance, a.Levy, a.Final = pay, advance, levy, final
	return a
}

func accounts(l ...api.PoolAccount) []api.PoolAccount { return l }

// book returns a book.
func book(revenue, reserve, paid, rest, levies, sold int) api.PoolBook {
	return api.PoolBook{Revenue: revenue, Reserve: reserve, Paid: paid, Rest: rest, Levies: levies, Sold: sold}
}

// usual is the rules of the chapter's examples, usualMembers are its members, and usualDeliveries what they deliver.
func usual() api.PoolRules {
	return api.PoolRules{
		Prices: list(900, 800, 700), Premium: 100, Released: 600, Demand: 100000, Levy: 50, Reserve: 1000, Advance: 5000,
		Organic: api.OrganicRules{Taps: 2, Others: 20, Oils: 1, Cleaners: 3},
	}
}

func usualMembers() []api.Member { return members(member(50000, 20000), organic(30000, 0)) }

func usualDeliveries() []api.Delivery {
	return deliveries(plain(0, 0, 40000), green(1, 0, 30000), plain(1, 1, 30000))
}

// with changes what the usual rules have.
func with(change func(r *api.PoolRules)) api.PoolRules {
	r := usual()
	change(&r)
	return r
}

// needing returns the usual rules with another demand.
func needing(demand int) api.PoolRules { return with(func(r *api.PoolRules) { r.Demand = demand }) }

// bound is a number of something, with its least and its greatest value.
type bound struct {
	what        string
	n           *int
	least, most int
}

// organicBounds and the next ones return the numbers of rules and so on, with their bounds.
func organicBounds(r *api.OrganicRules) []bound {
	return []bound{{"Taps", &r.Taps, 0, 20}, {"Others", &r.Others, 0, 100}, {"Oils", &r.Oils, 0, 255}, {"Cleaners", &r.Cleaners, 0, 255}}
}

func rulesBounds(r *api.PoolRules) []bound {
	l := append(organicBounds(&r.Organic), []bound{
		{"Premium", &r.Premium, 0, 1000000}, {"Released", &r.Released, 0, 1000000}, {"Levy", &r.Levy, 0, 1000000},
		{"Demand", &r.Demand, 0, 10000000000}, {"Reserve", &r.Reserve, 0, 10000}, {"Advance", &r.Advance, 0, 10000},
	}...)
	for i := range r.Prices {
		l = append(l, bound{fmt.Sprint("the price ", i), &r.Prices[i], 0, 1000000})
	}
	return l
}

func memberBounds(m *api.Member) []bound {
	return []bound{{"Quota", &m.Quota, 0, 100000000}, {"Stored", &m.Stored, 0, 100000000}}
}

func practiceBounds(p *api.Practice) []bound {
	return []bound{{"Trees", &p.Trees, 0, 1000000}, {"Taps", &p.Taps, 0, 1000000}, {"Others", &p.Others, 0, 100}, {"Oils", &p.Oils, 0, 255}, {"Cleaners", &p.Cleaners, 0, 255}}
}

// within reports whether all numbers are in their bounds.
func within(l []bound) bool {
	return !slices.ContainsFunc(l, func(b bound) bool { return *b.n < b.least || *b.n > b.most })
}

// step sets each number to its bounds, and beyond them, and compares the error of a call.
func step(t *testing.T, what string, l []bound, wrong api.Errno, call func() api.Errno) {
	t.Helper()
	for _, b := range l {
		was := *b.n
		for n, want := range map[int]api.Errno{b.least: api.OK, b.most: api.OK, b.least - 1: wrong, b.most + 1: wrong, low: wrong, high: wrong} {
			*b.n = n
			sameErr(t, fmt.Sprint(what, ", ", b.what, " ", n), call(), want)
		}
		*b.n = was
	}
}

// dice returns numbers that are the same in each run.
func dice() *rand.Rand { return rand.New(rand.NewPCG(10, 12)) }

// pick returns a number from a to b.
func pick(d *rand.Rand, a, b int) int { return a + d.IntN(b-a+1) }

// picks returns so many numbers from a to b.
func picks(d *rand.Rand, n, a, b int) []int {
	var l []int
	for range n {
		l = append(l, pick(d, a, b))
	}
	return l
}

// anyRules returns rules, with any demand.
func anyRules(d *rand.Rand) api.PoolRules {
	most := []int{3, 2000, api.MaxPay}[d.IntN(3)]
	return api.PoolRules{
		Prices: picks(d, pick(d, 1, 8), 0, most), Premium: pick(d, 0, most), Released: pick(d, 0, most),
		Demand: pick(d, 0, 500), Levy: pick(d, 0, most), Reserve: pick(d, 0, 10000), Advance: pick(d, 0, 10000),
		Organic: api.OrganicRules{Taps: pick(d, 0, 3), Others: pick(d, 0, 40), Oils: pick(d, 0, 7), Cleaners: pick(d, 0, 7)},
	}
}

// anyPractice returns a practice that keeps rules or just does not.
func anyPractice(d *rand.Rand, r api.OrganicRules) api.Practice {
	trees := pick(d, 0, 100)
	p := api.Practice{Trees: trees, Taps: r.Taps * trees, Others: r.Others, Oils: r.Oils & pick(d, 0, 255), Cleaners: r.Cleaners & pick(d, 0, 255)}
	switch d.IntN(9) {
	case 0:
		p.Taps++
	case 1:
		p.Others = max(0, p.Others-1)
	case 2:
		p.Oils |= 1 << d.IntN(8)
	case 3:
		p.Cleaners |= 1 << d.IntN(8)
	}
	return p
}

// anyMembers returns so many members, with so many grams at most; some of them have nothing.
func anyMembers(d *rand.Rand, n, most int) []api.Member {
	var l []api.Member
	for range n {
		l = append(l, api.Member{Quota: pick(d, 0, 2) * pick(d, 0, most) / 2, Stored: pick(d, 0, 2) * pick(d, 0, most) / 2, Organic: d.IntN(3) > 0})
	}
	return l
}

// anyDeliveries returns so many deliveries of members, at least one of whom there is, with so many grams at most.
func anyDeliveries(d *rand.Rand, r api.PoolRules, members, n, most int) []api.Delivery {
	var l []api.Delivery
	for range n {
		l = append(l, api.Delivery{
			Member: d.IntN(members), Grade: d.IntN(len(r.Prices)), Mass: pick(d, 1, most),
			Organic: d.IntN(3) > 0, Practice: anyPractice(d, r.Organic),
		})
	}
	return l
}

// anySeason returns rules, members and deliveries. The demand is often just as much as there is of something.
func anySeason(d *rand.Rand) (api.PoolRules, []api.Member, []api.Delivery) {
	r, most := anyRules(d), []int{3, 50, 1000, 300000}[d.IntN(4)]
	l := anyMembers(d, pick(d, 1, 8), most)
	given := anyDeliveries(d, r, len(l), pick(d, 0, 25), most)
	r.Demand = anyDemand(d, r, l, given)
	return r, l, given
}

// anyDemand returns a demand that is just as much as there is of something, or about so much.
func anyDemand(d *rand.Rand, r api.PoolRules, l []api.Member, given []api.Delivery) int {
	told, _, e := acceptOf(r, l, given)
	if e != api.OK {
		return 0
	}
	in, stored, excess := 0, 0, 0
	for i, a := range told {
		in, stored, excess = in+a.In, stored+l[i].Stored, excess+a.Delivered-a.In
	}
	demand := []int{0, in, in + stored, in + stored + excess, in + pick(d, 0, stored), in + stored + pick(d, 0, excess), api.MaxDemand}[d.IntN(7)]
	return min(api.MaxDemand, max(0, demand+pick(d, -1, 1)))
}

// portionOf returns n * weight / all, rounded down, and the remainder.
func portionOf(n, weight int, all *big.Int) (portion, rest *big.Int) {
	product := new(big.Int).Mul(big.NewInt(int64(n)), big.NewInt(int64(weight)))
	return new(big.Int).DivMod(product, all, new(big.Int))
}

// allOf returns the sum of weights.
func allOf(weights ...int) *big.Int {
	all := new(big.Int)
	for _, w := range weights {
		all.Add(all, big.NewInt(int64(w)))
	}
	return all
}

// portionsOf shares n by the definition: one by one, each time to the first of the greatest remainders; each gets 0 if all weights are 0.
func portionsOf(n int, weights ...int) []int {
	portions, all := make([]int, len(weights)), allOf(weights...)
	if all.Sign() == 0 {
		return portions
	}
	var rests []*big.Int
	left := n
	for i, w := range weights {
		portion, rest := portionOf(n, w, all)
		portions[i], rests = int(portion.Int64()), append(rests, rest)
		left -= portions[i]
	}
	for range left {
		greatest := 0
		for i, rest := range rests {
			if rest.Cmp(rests[greatest]) > 0 {
				greatest = i
			}
		}
		portions[greatest]++
		rests[greatest] = big.NewInt(-1)
	}
	return portions
}

// ruleOf returns the first rule that a valid practice does not keep, by the definition.
func ruleOf(r api.OrganicRules, p api.Practice) int {
	bits := func(set int) map[int]bool {
		l := map[int]bool{}
		for n := range 8 {
			if set/(1<<n)%2 == 1 {
				l[n] = true
			}
		}
		return l
	}
	others := func(set, allowed int) bool {
		for n := range bits(set) {
			if !bits(allowed)[n] {
				return true
			}
		}
		return false
	}
	for i, broken := range []bool{p.Taps > r.Taps*p.Trees, p.Others < r.Others, others(p.Oils, r.Oils), others(p.Cleaners, r.Cleaners)} {
		if broken {
			return i + 1
		}
	}
	return 0
}

// validOf returns the error of rules and then of members, by the definition.
func validOf(r api.PoolRules, l []api.Member) api.Errno {
	if len(r.Prices) < 1 || len(r.Prices) > 8 || !within(rulesBounds(&r)) {
		return api.ErrArg
	}
	if len(l) > 30 {
		return api.ErrLong
	}
	if slices.ContainsFunc(l, func(m api.Member) bool { return !within(memberBounds(&m)) }) {
		return api.ErrArg
	}
	return api.OK
}

// leasedOf carries out leases by the definition.
func leasedOf(l []api.Member, given []api.Lease) ([]api.Member, int, api.Errno) {
	if e := validOf(usual(), l); e != api.OK {
		return nil, 0, e
	}
	if len(given) > 30 {
		return nil, 0, api.ErrLong
	}
	quotas := map[int]int{}
	for i, m := range l {
		quotas[i] = m.Quota
	}
	for at, x := range given {
		from, isFrom := quotas[x.From]
		to, isTo := quotas[x.To]
		switch {
		case !isFrom || !isTo:
			return nil, at, api.ErrNone
		case x.From == x.To:
			return nil, at, api.ErrArg
		case x.Mass < 1 || x.Mass > from:
			return nil, at, api.ErrRange
		case to+x.Mass > 100000000:
			return nil, at, api.ErrOver
		}
		quotas[x.From], quotas[x.To] = from-x.Mass, to+x.Mass
	}
	var after []api.Member
	for i, m := range l {
		m.Quota = quotas[i]
		after = append(after, m)
	}
	return after, 0, api.OK
}

// sort is what the deliveries of a member fall into; those of a greater grade, and those that are organic, come later.
type sort struct {
	grade   int
	organic bool
}

// sortsOf returns what each member delivers of each sort, or the error of a delivery, by the definition.
func sortsOf(r api.PoolRules, l []api.Member, given []api.Delivery) (sorts []map[sort]int, at int, e api.Errno) {
	for range l {
		sorts = append(sorts, map[sort]int{})
	}
	for at, x := range given {
		if x.Member < 0 || x.Member >= len(l) {
			return nil, at, api.ErrNone
		}
		if x.Grade < 0 || x.Grade >= len(r.Prices) || x.Mass < 1 || x.Mass > 100000000 || !within(practiceBounds(&x.Practice)) {
			return nil, at, api.ErrArg
		}
		all := x.Mass
		for _, grams := range sorts[x.Member] {
			all += grams
		}
		if all > 100000000 {
			return nil, at, api.ErrOver
		}
		sorts[x.Member][sort{x.Grade, x.Organic && l[x.Member].Organic && ruleOf(r.Organic, x.Practice) == 0}] += x.Mass
	}
	return sorts, 0, api.OK
}

// pointsOf returns the points of accepted and of released grams, by the definition.
func pointsOf(r api.PoolRules, sorts map[sort]int, accepted, released int) int {
	var weights, prices []int
	for grade, price := range r.Prices {
		weights = append(weights, sorts[sort{grade, false}], sorts[sort{grade, true}])
		prices = append(prices, price, price+r.Premium)
	}
	points := released * r.Released
	for i, grams := range portionsOf(accepted, weights...) {
		points += grams * prices[i]
	}
	return points
}

// acceptOf returns what Accept must return.
func acceptOf(r api.PoolRules, l []api.Member, given []api.Delivery) ([]api.PoolAccount, int, api.Errno) {
	if e := validOf(r, l); e != api.OK {
		return nil, 0, e
	}
	if len(given) > 300 {
		return nil, 0, api.ErrLong
	}
	sorts, at, e := sortsOf(r, l, given)
	if e != api.OK {
		return nil, at, e
	}
	told := make([]api.PoolAccount, len(l))
	var stored, excess []int
	need, allStored, allExcess := r.Demand, 0, 0
	for i, m := range l {
		for _, grams := range sorts[i] {
			told[i].Delivered += grams
		}
		told[i].In = min(told[i].Delivered, m.Quota)
		need -= told[i].In
		stored, excess = append(stored, m.Stored), append(excess, told[i].Delivered-told[i].In)
		allStored, allExcess = allStored+stored[i], allExcess+excess[i]
	}
	need = max(need, 0)
	out := portionsOf(min(need, allStored), stored...)
	more := portionsOf(min(need-min(need, allStored), allExcess), excess...)
	for i := range told {
		a := &told[i]
		a.Released, a.Admitted = out[i], more[i]
		a.Stored = stored[i] - out[i] + excess[i] - more[i]
		a.Points = pointsOf(r, sorts[i], a.In+a.Admitted, a.Released)
	}
	return told, 0, api.OK
}

// part returns n * a / b, rounded down.
func part(n, a, b int) int {
	portion, _ := portionOf(n, a, big.NewInt(int64(b)))
	return int(portion.Int64())
}

// settleOf returns what Settle must return.
func settleOf(r api.PoolRules, l []api.Member, given []api.Delivery, revenue int) ([]api.PoolAccount, api.PoolBook, int, api.Errno) {
	told, at, e := acceptOf(r, l, given)
	if e != api.OK {
		return nil, api.PoolBook{}, at, e
	}
	if revenue < 0 || revenue > 1000000000000 {
		return nil, api.PoolBook{}, 0, api.ErrRange
	}
	b := api.PoolBook{Revenue: revenue, Reserve: part(revenue, r.Reserve, 10000)}
	var points []int
	for _, a := range told {
		points = append(points, a.Points)
	}
	if allOf(points...).Sign() == 0 {
		b.Rest = revenue - b.Reserve
	}
	for i, pay := range portionsOf(revenue-b.Reserve-b.Rest, points...) {
		a := &told[i]
		a.Pay, a.Advance, a.Levy = pay, part(part(a.Points, 1, 1000), r.Advance, 10000), part(a.In+a.Admitted, r.Levy, 1000)
		a.Final = a.Pay - a.Advance - a.Levy
		b.Paid, b.Levies, b.Sold = b.Paid+pay, b.Levies+a.Levy, b.Sold+a.In+a.Admitted+a.Released
	}
	return told, b, 0, api.OK
}

// yeared is what Years returns beside the accounts and the error.
type yeared struct {
	books    []api.PoolBook
	year, at int
}

// yearsOf returns what Years must return.
func yearsOf(r api.PoolRules, l []api.Member, given []api.PoolSeason) ([][]api.PoolAccount, yeared, api.Errno) {
	if e := validOf(r, l); e != api.OK {
		return nil, yeared{}, e
	}
	if len(given) > 10 {
		return nil, yeared{}, api.ErrLong
	}
	var all [][]api.PoolAccount
	var books []api.PoolBook
	now := slices.Clone(l)
	for year, s := range given {
		if s.Demand < 0 || s.Demand > 10000000000 {
			return nil, yeared{year: year}, api.ErrRange
		}
		own := r
		own.Demand = s.Demand
		told, b, at, e := settleOf(own, now, s.Deliveries, s.Revenue)
		if e != api.OK {
			return nil, yeared{year: year, at: at}, e
		}
		for i, a := range told {
			if a.Stored > 100000000 {
				return nil, yeared{year: year}, api.ErrOver
			}
			now[i].Stored = a.Stored
		}
		all, books = append(all, told), append(books, b)
	}
	return all, yeared{books: books}, api.OK
}

// sameErr reports an error that is not the one that is wanted.
func sameErr(t *testing.T, what string, got, want api.Errno) {
	t.Helper()
	if got != want {
		t.Errorf("%s: error %d; want %d", what, got, want)
	}
}

// asked is what a function was asked; it is only written down if something is wrong.
type asked []any

// sameList compares lists, numbers beside them, and errors; an empty list and a nil one are the same.
func sameList[T comparable](t *testing.T, what asked, got []T, at int, e api.Errno, want []T, wantAt int, wantErr api.Errno) {
	t.Helper()
	if !slices.Equal(got, want) || at != wantAt || e != wantErr {
		t.Errorf("%v: %v, at %d, error %d; want %v, at %d, error %d", what, got, at, e, want, wantAt, wantErr)
	}
}

// samePortions and the next ones ask, and compare.
func samePortions(t *testing.T, n int, weights, want []int, wantErr api.Errno) {
	t.Helper()
	l, e := pool.Portions(n, weights)
	sameList(t, asked{"Portions", n, weights}, l, 0, e, want, 0, wantErr)
}

func samePractice(t *testing.T, r api.OrganicRules, p api.Practice, want int, wantErr api.Errno) {
	t.Helper()
	n, e := pool.Practice(r, p)
	sameList(t, asked{"Practice", r, p}, list(n), 0, e, list(want), 0, wantErr)
}

func sameLeased(t *testing.T, l []api.Member, given []api.Lease, want []api.Member, wantAt int, wantErr api.Errno) {
	t.Helper()
	got, at, e := pool.Leased(l, given)
	sameList(t, asked{"Leased", l, given}, got, at, e, want, wantAt, wantErr)
}

func sameAccept(t *testing.T, r api.PoolRules, l []api.Member, given []api.Delivery, want []api.PoolAccount, wantAt int, wantErr api.Errno) {
	t.Helper()
	got, at, e := pool.Accept(r, l, given)
	sameList(t, asked{"Accept", r, l, given}, got, at, e, want, wantAt, wantErr)
}

func sameSettle(t *testing.T, r api.PoolRules, l []api.Member, given []api.Delivery, revenue int, want []api.PoolAccount, wantBook api.PoolBook, wantAt int, wantErr api.Errno) {
	t.Helper()
	got, b, at, e := pool.Settle(r, l, given, revenue)
	what := asked{"Settle", r, l, given, revenue}
	sameList(t, what, got, at, e, want, wantAt, wantErr)
	if b != wantBook {
		t.Errorf("%v: the book %v; want %v", what, b, wantBook)
	}
}

func sameYears(t *testing.T, r api.PoolRules, l []api.Member, given []api.PoolSeason, want [][]api.PoolAccount, wantBeside yeared, wantErr api.Errno) {
	t.Helper()
	got, books, year, at, e := pool.Years(r, l, given)
	what := asked{"Years", r, l, given}
	sameList(t, what, books, at, e, wantBeside.books, wantBeside.at, wantErr)
	if year != wantBeside.year || !slices.EqualFunc(got, want, slices.Equal[[]api.PoolAccount]) {
		t.Errorf("%v: %v, year %d; want %v, year %d", what, got, year, want, wantBeside.year)
	}
}

// refuses reports an error that is not that of all functions with rules and members, if nothing is delivered.
func refuses(t *testing.T, r api.PoolRules, l []api.Member, want api.Errno) {
	t.Helper()
	sameAccept(t, r, l, nil, nil, 0, want)
	sameSettle(t, r, l, nil, 0, nil, api.PoolBook{}, 0, want)
	sameYears(t, r, l, nil, nil, yeared{}, want)
}
