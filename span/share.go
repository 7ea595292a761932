package span

import (
	"slices"

	"spile/api"
)

// Share shares a number by weights.
func Share(n int, weights []int) ([]int, api.Errno) {
	if len(weights) > api.MaxSum {
		return nil, api.ErrLong
	}
	if n < 0 || n > 2*api.MaxMass {
		return nil, api.ErrRange
	}
	all, e := allWeights(weights)
	if e != api.OK {
		return nil, e
	}
	left := n
	var shares, rests []int
	for _, w := range weights {
		q := quotientOf(n, w, all)
		shares = append(shares, q.around().Low)
		rests = append(rests, q.rest())
		left -= q.around().Low
	}
	for _, i := range greatestFirst(rests)[:left] {
		shares[i]++
	}
	return shares, api.OK
}

// allWeights returns the sum of weights, or their error.
func allWeights(weights []int) (int, api.Errno) {
	all := 0
	for _, w := range weights {
		if w < 0 || w > api.MaxShare {
			return 0, api.ErrArg
		}
		all += w
	}
	if all == 0 {
		return 0, api.ErrArg
	}
	return all, api.OK
}

// greatestFirst returns the numbers of a list from the greatest to the least value, those of equal values in their order.
func greatestFirst(values []int) []int {
	var order []int
	for i := range values {
		order = append(order, i)
	}
	slices.SortStableFunc(order, func(i, j int) int { return values[j] - values[i] })
	return order
}
