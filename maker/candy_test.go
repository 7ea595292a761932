package maker_test

import (
	"fmt"
	"testing"

	"spile/maker"
)

// TestP13_1Candy shows rules that are looked at where they are used, products, and a batch with its acts.
func TestP13_1Candy(t *testing.T) {
	told(t, maker.New(), `
		product 8400..8700 0..300 15..60 0 90 => ErrState
		batch 2000+4000 => ErrState
		batch 0+0 => ErrState
		cook 1180..1180 => ErrState
		cool 200..250 => ErrState
		stir 20..20 => ErrState
		seed 10 => ErrState
		become => ErrState
		yield => ErrState
		candyrules 0:0,6600:40,8600:180,9500:300 0:6400,1000:8300 995..1005 => ok
		candyrules 0:0,6600:40,8600:180,9500:300 0:6400,1000:8300 995..1005 => ErrState
		candyrules - - 2..1 => ErrState
		batch 2000+4000 => ErrArg
		cook 1180..1180 => ErrState
		become => ErrState
		product 8400..8700 0..300 15..60 0 90 => 1
		cook 1180..1180 => ErrState
		cool 200..250 => ErrState
		stir 20..20 => ErrState
		seed 10 => ErrState
		become => ErrState
		yield => ErrState
		batch -1+4000 => ErrArg
		batch 2000+0 => ErrNone
		batch 0+0 => ErrNone
		cook 1180..1180 => ErrState
		batch 2000+4000 => ok
		become => ErrState
		yield => ErrState
		product 8500..9000 600..1000 2..6 0 60 => 2
		product 9000..9600 900..1300 5..20 10 40 => 3
		cool 0..1 => ErrRange
		cook 1181..1180 => ErrArg
		cook 1180..2001 => ErrArg
		cook 1180..2000 => ErrNone
		become => ErrState
		cook 1130..1135 => 7815..8029
		become => ErrState
		yield => 4981..5118
		cook 1180..1180 => 8529..8638
		cool 1181..1181 => ErrRange
		cool 200..250 => 8529..8638
		cool 200..251 => ErrRange
		become => ErrState
		stir 1001..1001 => ErrRange
		stir 21..20 => ErrRange
		stir 20..20 => 8529..8638
		cook 1190..1190 => ErrState
		become => 0
		yield => 4630..4689
		seed 1000001 => ErrRange
		seed -1 => ErrRange
		seed 10 => 8529..8638
		seed 999991 => ErrOver
		stir 0..981 => ErrOver
		become => 0
		yield => 4640..4699
		batch 0+0 => ErrNone
		yield => 4640..4699
		batch 970+30 => ok
		yield => ErrState
		stir 0..0 => 300..300
		yield => 1000..1000
		become => -1
	`)
	told(t, after(t, candyLines()[:5]...), "cook 1190..1190 => 8638..8713\ncool 200..250 => 8638..8713\nstir 20..20 => 8638..8713\nbecome => -1,0")
	told(t, after(t, candyLines()[:5]...), "cook 1180..1180 => 8529..8638\ncool 900..900 => 8529..8638\nstir 3..3 => 8529..8638\nbecome => 1")
}

// TestP13_1WrongCandy shows that wrong rules and products have their errors only where they are used.
func TestP13_1WrongCandy(t *testing.T) {
	told(t, maker.New(), "candyrules - - 2..1 => ok\nproduct 2..1 2..1 2..1 -1 -1 => 1\nbatch 2000+4000 => ErrArg\nbatch 0+0 => ErrArg\ncook 1180..1180 => ErrState")
	told(t, after(t, candyLines()...), `
		become => 0
		product 0..1 0..300 15..60 0 90 => 4
		become => ErrArg
		yield => ErrArg
		stir 1..1 => ErrArg
		seed -1 => ErrArg
		batch 2000+4000 => ErrArg
	`)
}

// TestP13_1EightProducts shows that there are at most 8 products and 30 acts.
func TestP13_1EightProducts(t *testing.T) {
	m := after(t, candyLines()[:5]...)
	for i := range 5 {
		told(t, m, fmt.Sprintf("product 1..10000 -2000..2000 0..1000 0 0 => %d", i+4))
	}
	told(t, m, "product 1..10000 -2000..2000 0..1000 0 0 => ErrFull\nproduct 2..1 2..1 2..1 -1 -1 => ErrFull")
	for i := range 30 {
		told(t, m, []string{"cook 1180..1180", "cool 1180..1180", "seed 0"}[i%3]+" => 8529..8638")
	}
	told(t, m, "stir 0..0 => ErrLong\nstir -1..0 => ErrLong\nseed -1 => ErrLong\nbecome => ErrState\nyield => 4630..4689\nbatch 2000+4000 => ok\nstir 0..0 => 6666..6667")
}
