package span_test

import (
	"fmt"
	"math/rand/v2"
	"slices"
	"testing"

	"spile/api"
	"spile/span"
)

// pickWeights returns weights whose sum is above 0.
func pickWeights(d *rand.Rand) []int {
	weights := []int{pick(d, 1, 9)}
	for range pick(d, 0, 12) {
		weights = append(weights, pick(d, 0, 9))
	}
	d.Shuffle(len(weights), func(i, j int) { weights[i], weights[j] = weights[j], weights[i] })
	return weights
}

func TestP1_16Share(t *testing.T) {
	for _, c := range []struct {
		n       int
		weights []int
		want    []int
		e       api.Errno
	}{
		{10, []int{1, 1, 1}, []int{4, 3, 3}, api.OK},
		{11, []int{1, 1, 1}, []int{4, 4, 3}, api.OK},
		{10, []int{1, 2, 4}, []int{1, 3, 6}, api.OK},
		{5, []int{2, 3, 2}, []int{2, 2, 1}, api.OK},
		{1, []int{1, 3, 3}, []int{0, 1, 0}, api.OK},
		{2, []int{1, 3, 3}, []int{0, 1, 1}, api.OK},
		{7, []int{0, 5, 0}, []int{0, 7, 0}, api.OK},
		{0, []int{3, 4}, []int{0, 0}, api.OK},
		{2 * ton, []int{1000000, 1000000}, []int{ton, ton}, api.OK},
		{2 * ton, []int{1}, []int{2 * ton}, api.OK},
		{2 * ton, []int{1000000, 999999}, []int{1000000500000, 999999500000}, api.OK},
		{100, slices.Repeat([]int{1000000}, 100), slices.Repeat([]int{1}, 100), api.OK},
		{1, []int{}, nil, api.ErrArg},
		{1, nil, nil, api.ErrArg},
		{1, []int{0, 0}, nil, api.ErrArg},
		{1, []int{1, -1}, nil, api.ErrArg},
		{1, []int{2, -1}, nil, api.ErrArg},
		{1, []int{1000001}, nil, api.ErrArg},
		{1, []int{low, high, 1}, nil, api.ErrArg},
		{-1, []int{1}, nil, api.ErrRange},
		{2*ton + 1, []int{1}, nil, api.ErrRange},
		{high, []int{0}, nil, api.ErrRange},
		{low, []int{0}, nil, api.ErrRange},
		{-1, nil, nil, api.ErrRange},
		{100, slices.Repeat([]int{1}, 101), nil, api.ErrLong},
		{-1, slices.Repeat([]int{-1}, 101), nil, api.ErrLong},
	} {
		got, e := span.Share(c.n, c.weights)
		sameList(t, fmt.Sprint("Share ", c.n, c.weights), got, e, c.want, c.e)
	}
}

// shared shares n in the slow way: one by one, each time to the first of the greatest remainders.
func shared(n int, weights []int) []int {
	all, left := 0, n
	for _, w := range weights {
		all += w
	}
	var shares, rests []int
	for _, w := range weights {
		shares, rests = append(shares, n*w/all), append(rests, n*w%all)
		left -= n * w / all
	}
	for range left {
		i := slices.Index(rests, slices.Max(rests))
		shares[i]++
		rests[i] = -1
	}
	return shares
}

func TestP1_16OneByOne(t *testing.T) {
	d := dice()
	for i := range 2000 {
		n, weights := pick(d, 0, []int{20, 1000, 2 * ton}[i%3]), pickWeights(d)
		got, e := span.Share(n, weights)
		sameList(t, fmt.Sprint("Share ", n, weights), got, e, shared(n, weights), api.OK)
	}
}

func TestP1_22Shares(t *testing.T) {
	d := dice()
	for range 2000 {
		n, weights := pick(d, 0, 1000), pickWeights(d)
		got, e := span.Share(n, weights)
		if e != api.OK || len(got) != len(weights) {
			t.Fatal("Share", n, weights, got, e)
		}
		sum, all := 0, 0
		for i := range got {
			sum, all = sum+got[i], all+weights[i]
		}
		if sum != n {
			t.Error("shares do not add up:", n, weights, got)
		}
		for i := range got {
			if off := got[i]*all - n*weights[i]; off <= -all || off >= all || weights[i] == 0 && got[i] != 0 {
				t.Error("not the share:", n, weights, got, i)
			}
		}
	}
}
