package pool_test

import (
	"math/big"
	"slices"
	"testing"

	"spile/api"
	"spile/pool"
)

const most = api.MaxPortion

func TestP10_1Portions(t *testing.T) {
	for _, c := range []struct {
		n             int
		weights, want []int
	}{
		{10, list(1, 1, 1), list(4, 3, 3)}, {11, list(1, 1, 1), list(4, 4, 3)}, {12, list(1, 1, 1), list(4, 4, 4)},
		{10, list(1, 2, 4), list(1, 3, 6)}, {5, list(2, 3, 2), list(2, 2, 1)}, {1, list(1, 3, 3), list(0, 1, 0)}, {2, list(1, 3, 3), list(0, 1, 1)}, {3, list(2, 2, 2, 1), list(1, 1, 1, 0)},
		{0, list(1), list(0)}, {0, list(3, 4), list(0, 0)}, {0, list(0, most), list(0, 0)}, {7, list(0, 5, 0), list(0, 7, 0)}, {1, list(0, 1, 1), list(0, 1, 0)}, {1, list(0, 0, 1), list(0, 0, 1)},
		{most, list(1), list(most)}, {most, list(most), list(most)}, {1, list(most), list(1)}, {most, list(1, 0), list(most, 0)},
		{most, list(most, most), list(most/2, most/2)}, {most - 1, list(most, most), list(most/2, most/2-1)}, {most - 1, list(1, 1), list(most/2, most/2-1)}, {1, list(most, most), list(1, 0)},
		{most, list(most, most, most), list(333333333333334, 333333333333333, 333333333333333)}, {most, list(most-1, most), list(most/2, most/2)}, {most, list(most, 1), list(most-1, 1)}, {most - 1, list(most, 1), list(most-2, 1)}, {most / 2, list(most, 1), list(most/2, 0)},
		{100, times(100, most), times(100, 1)}, {most, times(100, most), times(100, most/100)}, {1, times(100, 1), append(list(1), times(99, 0)...)}, {99, times(100, most), append(times(99, 1), 0)},
		{36, list(48000000, 36000000), list(21, 15)}, {75600, list(48000000, 36000000), list(43200, 32400)},
	} {
		samePortions(t, c.n, c.weights, c.want, api.OK)
		if truly := portionsOf(c.n, c.weights...); !slices.Equal(truly, c.want) {
			t.Error("by the definition:", c.n, c.weights, truly, c.want)
		}
	}
}

func TestP10_1Errors(t *testing.T) {
	for _, c := range []struct {
		n       int
		weights []int
		want    api.Errno
	}{
		{1, nil, api.ErrArg}, {1, list(), api.ErrArg}, {0, nil, api.ErrArg}, {0, list(0), api.ErrArg}, {1, list(0, 0), api.ErrArg}, {1, times(100, 0), api.ErrArg},
		{1, list(-1), api.ErrArg}, {1, list(2, -1), api.ErrArg}, {1, list(-1, 2), api.ErrArg}, {1, list(1, most+1), api.ErrArg}, {1, list(most + 1), api.ErrArg}, {1, list(low, high, 2), api.ErrArg}, {1, list(high, high, 3), api.ErrArg}, {0, list(low), api.ErrArg},
		{-1, list(1), api.ErrRange}, {most + 1, list(1), api.ErrRange}, {low, list(1), api.ErrRange}, {high, list(1), api.ErrRange},
		{-1, nil, api.ErrRange}, {-1, list(0), api.ErrRange}, {most + 1, list(-1), api.ErrRange}, {most + 1, times(100, most+1), api.ErrRange},
		{1, times(101, 1), api.ErrLong}, {-1, times(101, -1), api.ErrLong}, {1, times(101, 0), api.ErrLong}, {most + 1, times(100000, 1), api.ErrLong},
	} {
		samePortions(t, c.n, c.weights, nil, c.want)
	}
}

// TestP10_1OneByOne compares any numbers with the definition in big integers.
func TestP10_1OneByOne(t *testing.T) {
	d := dice()
	for i := range 20000 {
		greatest := []int{1, 3, 9, 1000, 1000000007, most}[i%6]
		n := pick(d, 0, []int{20, 1000, most}[i%3])
		weights := append(picks(d, pick(d, 0, 15), 0, greatest), pick(d, 1, greatest))
		samePortions(t, n, weights, portionsOf(n, weights...), api.OK)
	}
}

// TestP10_8Portions looks at sums, at exact shares, and at weights.
func TestP10_8Portions(t *testing.T) {
	d := dice()
	little := 0
	for i := range 20000 {
		greatest := []int{1, 3, 9, 1000, most}[i%5]
		n := pick(d, 0, []int{5, 20, 1000, most}[i%4])
		weights := append(picks(d, pick(d, 0, 12), 0, greatest), pick(d, 1, greatest))
		l, e := pool.Portions(n, weights)
		if e != api.OK || len(l) != len(weights) || allOf(l...).Int64() != int64(n) {
			t.Fatal("portions do not add up:", n, weights, l, e)
		}
		all := allOf(weights...)
		enough := all.Cmp(big.NewInt(int64(n))) >= 0
		if enough {
			little++
		}
		for i, portion := range l {
			off := new(big.Int).Mul(big.NewInt(int64(portion)), all)
			off.Sub(off, new(big.Int).Mul(big.NewInt(int64(n)), big.NewInt(int64(weights[i]))))
			if off.CmpAbs(all) >= 0 {
				t.Fatal("not the share:", n, weights, l, i)
			}
			if portion < 0 || enough && portion > weights[i] {
				t.Fatal("greater than its weight:", n, weights, l, i)
			}
		}
	}
	if little < 3000 || little > 17000 {
		t.Error("too few, or too many:", little)
	}
}
