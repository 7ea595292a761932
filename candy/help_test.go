package candy_test

import (
	"fmt"
	"math/rand/v2"
	"slices"

	"spile/api"
)

const (
	low  = -1 << 63
	high = 1<<63 - 1
)

func list(l ...int) []int { return l }

// times returns a list of so many equal things.
func times[T any](n int, x T) []T { return slices.Repeat([]T{x}, n) }

// between returns a range, and just the range of one number.
func between(a, b int) api.Range { return api.Range{Low: a, High: b} }

func just(n int) api.Range { return between(n, n) }

// table returns rows: x, y, x, y ..
func table(l ...int) []api.Row {
	var rows []api.Row
	for i := 0; i+1 < len(l); i += 2 {
		rows = append(rows, api.Row{X: l[i], Y: l[i+1]})
	}
	return rows
}

func sap(water, sugar int) api.Sap { return api.Sap{Water: water, Sugar: sugar} }

// product returns a product without seed and work, with more its seed and work, and products returns several ones.
func product(dense, start, stirred api.Range) api.Product {
	return api.Product{Dense: dense, Start: start, Stirred: stirred}
}

func more(p api.Product, seed, work int) api.Product {
	p.Seed, p.Work = seed, work
	return p
}

func products(l ...api.Product) []api.Product { return l }

// cook and the next ones return acts.
func cook(a, b int) api.CandyAct { return api.CandyAct{Kind: api.CandyCook, Range: between(a, b)} }

func cool(a, b int) api.CandyAct { return api.CandyAct{Kind: api.CandyCool, Range: between(a, b)} }

func stir(a, b int) api.CandyAct { return api.CandyAct{Kind: api.CandyStir, Range: between(a, b)} }

func seed(n int) api.CandyAct { return api.CandyAct{Kind: api.CandySeed, Mass: n} }

func acts(l ...api.CandyAct) []api.CandyAct { return l }

// standing returns a state that has not begun to stir, begun one that has, and seeded one with seed.
func standing(dense, heat api.Range) api.CandyState { return api.CandyState{Dense: dense, Heat: heat} }

func begun(dense, start, stirred api.Range) api.CandyState {
	return api.CandyState{Dense: dense, Heat: start, Start: start, Stirred: stirred, Begun: true}
}

func seeded(x api.CandyState, n int) api.CandyState {
	x.Seed = n
	return x
}

func states(l ...api.CandyState) []api.CandyState { return l }

// order returns an order, and orders returns several ones.
func order(product, mass, price int) api.CandyOrder {
	return api.CandyOrder{Product: product, Mass: mass, Price: price}
}

func orders(l ...api.CandyOrder) []api.CandyOrder { return l }

// usual is the rules of the chapter's examples, and usualSap the sap of its third one.
func usual() api.CandyRules {
	return api.CandyRules{
		Elevation: table(0, 0, 6600, 40, 8600, 180, 9500, 300), Solubility: table(0, 6400, 1000, 8300), Base: between(995, 1005),
		Products: products(
			more(product(between(8400, 8700), between(0, 300), between(15, 60)), 0, 90),
			more(product(between(8500, 9000), between(600, 1000), between(2, 6)), 0, 60),
			more(product(between(9000, 9600), between(900, 1300), between(5, 20)), 0, 40),
		),
	}
}

func usualSap() api.Sap { return sap(2000, 4000) }

// with changes what the usual rules have, and making returns the usual rules with other products.
func with(change func(r *api.CandyRules)) api.CandyRules {
	r := usual()
	change(&r)
	return r
}

func making(l ...api.Product) api.CandyRules {
	return with(func(r *api.CandyRules) { r.Products = l })
}

// rangeBound is a range of something, with the numbers from which and to which it may go.
type rangeBound struct {
	what        string
	r           *api.Range
	least, most int
}

// bound is a number of something, with its least and its greatest value.
type bound struct {
	what        string
	n           *int
	least, most int
}

// rangesOf and boundsOf return the ranges and the other numbers of rules, without those of tables.
func rangesOf(r *api.CandyRules) []rangeBound {
	l := []rangeBound{{"Base", &r.Base, 0, 2000}}
	for i := range r.Products {
		p := &r.Products[i]
		l = append(l, rangeBound{fmt.Sprint("Dense of ", i), &p.Dense, 1, 10000}, rangeBound{fmt.Sprint("Start of ", i), &p.Start, -2000, 2000}, rangeBound{fmt.Sprint("Stirred of ", i), &p.Stirred, 0, 1000})
	}
	return l
}

func boundsOf(r *api.CandyRules) []bound {
	var l []bound
	for i := range r.Products {
		p := &r.Products[i]
		l = append(l, bound{fmt.Sprint("Seed of ", i), &p.Seed, 0, 1000000}, bound{fmt.Sprint("Work of ", i), &p.Work, 0, 100000})
	}
	return l
}

// wrongRanges are ranges that are not valid ones from a to b, and rightRanges are some that are.
func wrongRanges(a, b int) []api.Range {
	return []api.Range{between(a-1, b), between(a, b+1), between(a-1, a), between(b, b+1), just(a - 1), just(b + 1), between(b, a), between(a+1, a), between(b, b-1), just(low), just(high), between(low, high), between(high, low)}
}

func rightRanges(a, b int) []api.Range {
	return []api.Range{between(a, b), just(a), just(b), between(a, a+1), between(b-1, b), just((a + b) / 2)}
}

// dice returns numbers that are the same in each run.
func dice() *rand.Rand { return rand.New(rand.NewPCG(11, 11)) }

// pick returns a number from a to b.
func pick(d *rand.Rand, a, b int) int { return a + d.IntN(b-a+1) }

// anyRange returns a range from a to b.
func anyRange(d *rand.Rand, a, b int) api.Range {
	x, y := pick(d, a, b), pick(d, a, b)
	return between(min(x, y), max(x, y))
}

// narrower returns a range of numbers of a range.
func narrower(d *rand.Rand, r api.Range) api.Range { return anyRange(d, r.Low, r.High) }

// ascending returns so many numbers from a to b, each one once, in ascending order.
func ascending(d *rand.Rand, n, a, b int) []int {
	var l []int
	for len(l) < n {
		if x := pick(d, a, b); !slices.Contains(l, x) {
			l = append(l, x)
		}
	}
	slices.Sort(l)
	return l
}

// anyProduct returns a product among small numbers.
func anyProduct(d *rand.Rand) api.Product {
	p := product(anyRange(d, 1, 9), anyRange(d, -4, 4), anyRange(d, 0, 6))
	return more(p, pick(d, 0, 2), pick(d, 0, 100))
}

// anyRules returns rules with any tables, and with products among small numbers.
func anyRules(d *rand.Rand) api.CandyRules {
	var r api.CandyRules
	n := pick(d, 2, 6)
	xs, ys := ascending(d, n, 0, []int{20, 500, 10000}[d.IntN(3)]), ascending(d, n, 0, []int{20, 300, 2000}[d.IntN(3)])
	for i := range n {
		r.Elevation = append(r.Elevation, api.Row{X: xs[i], Y: ys[i]})
	}
	most := []int{20, 300, 2000}[d.IntN(3)]
	for _, x := range ascending(d, pick(d, 2, 6), -most, most) {
		r.Solubility = append(r.Solubility, api.Row{X: x, Y: pick(d, 0, 9999)})
	}
	r.Base = anyRange(d, 0, 50)
	for range pick(d, 1, 8) {
		r.Products = append(r.Products, anyProduct(d))
	}
	return r
}

// anyState returns a state among small numbers, or one that begins or ends just where a product does.
func anyState(d *rand.Rand) api.CandyState {
	return seeded(begun(anyRange(d, -1, 11), anyRange(d, -6, 6), anyRange(d, -1, 8)), pick(d, -1, 3))
}

// anyActs returns so many acts, most of which can be carried out.
func anyActs(d *rand.Rand, n int) []api.CandyAct {
	var l []api.CandyAct
	heat := just(0)
	for range n {
		switch k := d.IntN(20); {
		case k < 6:
			heat = anyRange(d, -20, []int{40, 300, 2000}[d.IntN(3)])
			l = append(l, cook(heat.Low, heat.High))
		case k < 12:
			heat = between(heat.Low-pick(d, 0, 9), heat.High-pick(d, 0, 9))
			l = append(l, cool(min(heat.Low, heat.High), heat.High))
		case k < 14:
			r := anyRange(d, 0, []int{5, 900}[d.IntN(2)])
			l = append(l, stir(r.Low, r.High))
		case k < 18:
			l = append(l, seed(pick(d, 0, []int{3, 900000}[d.IntN(2)])))
		default:
			l = append(l, api.CandyAct{Kind: api.CandyActKind(pick(d, 0, 5)), Range: anyRange(d, -1, 1), Mass: pick(d, 0, 1)})
		}
	}
	return l
}

// anyOrders returns so many orders, of which many pay the same or need the same.
func anyOrders(d *rand.Rand, r api.CandyRules, n int) []api.CandyOrder {
	var l []api.CandyOrder
	mass, price := []int{5, 300, 9000}[d.IntN(3)], []int{1, 4, 1000}[d.IntN(3)]
	for range n {
		l = append(l, order(d.IntN(len(r.Products)), pick(d, 1, mass), pick(d, 0, price)))
	}
	return l
}
