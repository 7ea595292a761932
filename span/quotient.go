package span

import (
	"math/bits"

	"spile/api"
)

// beyond stands for all quotients that are greater: no number that is allowed is as great, and two of them can still be added.
const beyond = 1000 * api.MaxSpan

// quotient is the first number times the second one, divided by the third one, which is not 0.
type quotient [3]int

// quotientOf returns the quotient of up to three numbers; each that does not come is 1.
func quotientOf(numbers ...int) quotient {
	q := quotient{1, 1, 1}
	copy(q[:], numbers)
	return q
}

// around returns the quotient, rounded down and rounded up.
func (q quotient) around() api.Range {
	whole, rest := q.divide()
	up := whole
	if rest > 0 {
		up++
	}
	if q.negative() {
		return api.Range{Low: -up, High: -whole}
	}
	return api.Range{Low: whole, High: up}
}

// rest returns what remains of the product.
func (q quotient) rest() int {
	_, rest := q.divide()
	return rest
}

// negative reports whether the quotient has a minus sign; that of 0 does not matter.
func (q quotient) negative() bool {
	return (q[0] < 0) != (q[1] < 0) != (q[2] < 0)
}

// divide divides without signs. The product is made of two words, as it can be greater than any int.
func (q quotient) divide() (whole, rest int) {
	high, low := bits.Mul64(size(q[0]), size(q[1]))
	by := size(q[2])
	if high >= by {
		return beyond, 0
	}
	w, r := bits.Div64(high, low, by)
	if w > beyond {
		return beyond, 0
	}
	return int(w), int(r)
}

// size returns a number without its sign.
func size(n int) uint64 {
	if n < 0 {
		return -uint64(n)
	}
	return uint64(n)
}
