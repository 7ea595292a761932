package candy

import (
	"iter"
	"slices"

	"spile/api"
)

// cube is all truths of a batch, or of a product: its densities, the heats at which stirring begins, and the minutes of stirring.
type cube [3]api.Range

// point is one truth: a number of each range.
type point [3]int

// newCube returns the cube of three ranges.
func newCube(ranges ...api.Range) cube { return cube(ranges) }

// cubeOf returns the cube of a product, and truths that of the batch.
func cubeOf(p api.Product) cube { return newCube(p.Dense, p.Start, p.Stirred) }

func (b *batch) truths() cube { return newCube(b.Dense, b.Start, b.Stirred) }

// canBe returns what the batch is in all its truths.
func (b *batch) canBe() []int {
	var cubes []cube
	for _, p := range b.Products {
		cubes = append(cubes, cubeOf(p))
	}
	var l []int
	for truth := range b.truths().points(cubes...) {
		if n := b.product(truth); !slices.Contains(l, n) {
			l = append(l, n)
		}
	}
	slices.Sort(l)
	return l
}

// product returns what the batch is in a truth.
func (b *batch) product(truth point) int {
	n := slices.IndexFunc(b.Products, func(p api.Product) bool { return p.Seed <= b.Seed && cubeOf(p).has(truth) })
	if n < 0 {
		return api.NoProduct
	}
	return n
}

// has reports whether a point lies in the cube.
func (c cube) has(p point) bool {
	for axis, n := range p {
		if !in(c[axis].Low, c[axis].High, n) {
			return false
		}
	}
	return true
}

// points yields so many points of the cube that each other point of it lies in the same ones of the other cubes as one of them.
func (c cube) points(others ...cube) iter.Seq[point] {
	return func(yield func(point) bool) {
		for _, x := range c.steps(0, others...) {
			for _, y := range c.steps(1, others...) {
				for _, z := range c.steps(2, others...) {
					if !yield(point{x, y, z}) {
						return
					}
				}
			}
		}
	}
}

// steps returns the numbers of a range of the cube before which another cube begins, or has just ended, and the first one. All numbers from one step to the next one lie in the same cubes.
func (c cube) steps(axis int, others ...cube) []int {
	all := c[axis]
	l := []int{all.Low}
	for _, other := range others {
		for _, n := range []int{other[axis].Low, other[axis].High + 1} {
			if in(all.Low, all.High, n) {
				l = append(l, n)
			}
		}
	}
	return l
}
