package pool

import (
	"math/bits"
	"slices"

	"spile/api"
)

// Portions shares a number by weights.
func Portions(n int, weights []int) ([]int, api.Errno) {
	if len(weights) > api.MaxSum {
		return nil, api.ErrLong
	}
	if !in(0, api.MaxPortion, n) {
		return nil, api.ErrRange
	}
	if !in(0, api.MaxPortion, weights...) || sum(weights...) == 0 {
		return nil, api.ErrArg
	}
	return portions(n, weights...), api.OK
}

// portions shares a number by weights; if there is nothing to share by, each portion is 0.
func portions(n int, weights ...int) []int {
	shares, rests := make([]int, len(weights)), make([]int, len(weights))
	all := sum(weights...)
	if all == 0 {
		return shares
	}
	for i, w := range weights {
		shares[i], rests[i] = divided(n, w, all)
	}
	for _, i := range greatestFirst(rests...)[:n-sum(shares...)] {
		shares[i]++
	}
	return shares
}

// divided returns the quotient of n * weight by the sum of all weights, and the remainder. The product may be greater than any integer.
func divided(n, weight, all int) (quotient, rest int) {
	high, low := bits.Mul64(uint64(n), uint64(weight))
	q, r := bits.Div64(high, low, uint64(all))
	return int(q), int(r)
}

// greatestFirst returns the numbers of a list from the greatest to the least value, those of equal values in their order.
func greatestFirst(values ...int) []int {
	order := make([]int, len(values))
	for i := range order {
		order[i] = i
	}
	slices.SortStableFunc(order, func(i, j int) int { return values[j] - values[i] })
	return order
}

// sum returns all numbers together.
func sum(numbers ...int) int {
	all := 0
	for _, n := range numbers {
		all += n
	}
	return all
}
