package candy

import (
	"iter"
	"slices"

	"spile/api"
)

// kilogram is for how many grams of a product its work is told.
const kilogram = 1000

// need is how many grams of sugar and minutes of work orders need, and what they pay.
type need struct {
	sugar, work, pay int
}

// Needs returns how many grams of sugar an order needs, and how many minutes of work.
func Needs(r api.CandyRules, o api.CandyOrder) (sugar, work int, e api.Errno) {
	if e := Check(r); e != api.OK {
		return 0, 0, e
	}
	if !validOrder(r, o) {
		return 0, 0, api.ErrArg
	}
	n := needOf(r, o)
	return n.sugar, n.work, api.OK
}

// Best returns the orders that pay most with so much sugar and so many minutes of work.
func Best(r api.CandyRules, l []api.CandyOrder, sugar, work int) (best []int, pay int, e api.Errno) {
	if e := Check(r); e != api.OK {
		return nil, 0, e
	}
	if len(l) > api.MaxOrders {
		return nil, 0, api.ErrLong
	}
	if slices.ContainsFunc(l, func(o api.CandyOrder) bool { return !validOrder(r, o) }) {
		return nil, 0, api.ErrArg
	}
	if !in(0, api.MaxMass, sugar) || work < 0 {
		return nil, 0, api.ErrRange
	}
	fits := func(chosen []int) bool {
		n := together(r, l, chosen...)
		return n.sugar <= sugar && n.work <= work
	}
	// The smaller lists come first: what comes later is better only if it pays more.
	for chosen := range choices(nil, 0, len(l), fits) {
		if n := together(r, l, chosen...); n.pay > pay {
			best, pay = chosen, n.pay
		}
	}
	return best, pay, api.OK
}

// validOrder reports whether an order is valid.
func validOrder(r api.CandyRules, o api.CandyOrder) bool {
	return in(0, len(r.Products)-1, o.Product) && in(1, api.MaxCandyMass, o.Mass) && in(0, api.MaxOrderPrice, o.Price)
}

// needOf returns what an order needs and pays, and together what the orders with some numbers do.
func needOf(r api.CandyRules, o api.CandyOrder) need {
	p := r.Products[o.Product]
	return need{roundedUp(o.Mass*p.Dense.High, api.MaxBrix), roundedUp(o.Mass*p.Work, kilogram), o.Price}
}

func together(r api.CandyRules, l []api.CandyOrder, numbers ...int) need {
	var all need
	for _, i := range numbers {
		n := needOf(r, l[i])
		all.sugar += n.sugar
		all.work += n.work
		all.pay += n.pay
	}
	return all
}

// choices yields, smaller ones first, the ascending lists that fit and begin with a list, and of which all other numbers are at least from, and below n. What begins with a list that does not fit must not fit, either.
func choices(begin []int, from, n int, fits func(chosen []int) bool) iter.Seq[[]int] {
	return func(yield func(chosen []int) bool) {
		if !fits(begin) || !yield(begin) {
			return
		}
		for next := from; next < n; next++ {
			for chosen := range choices(append(slices.Clone(begin), next), next+1, n, fits) {
				if !yield(chosen) {
					return
				}
			}
		}
	}
}

// roundedUp returns a quotient of numbers that are not below 0, rounded up.
func roundedUp(n, by int) int { return (n + by - 1) / by }
