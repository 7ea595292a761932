package span

import "spile/api"

// MakePart returns a fraction in lowest terms.
func MakePart(num, den int) (api.Part, api.Errno) {
	if !validNumber(num) || !validNumber(den) || den == 0 {
		return api.Part{}, api.ErrRange
	}
	return lowest(num, den)
}

// ComparePart returns -1, 0 or 1.
func ComparePart(a, b api.Part) (int, api.Errno) {
	if !validPart(a) || !validPart(b) {
		return 0, api.ErrArg
	}
	x, y := a.Num*b.Den, b.Num*a.Den
	switch {
	case x < y:
		return -1, api.OK
	case x > y:
		return 1, api.OK
	}
	return 0, api.OK
}

// AddPart returns a sum.
func AddPart(a, b api.Part) (api.Part, api.Errno) {
	if !validPart(a) || !validPart(b) {
		return api.Part{}, api.ErrArg
	}
	return lowest(a.Num*b.Den+b.Num*a.Den, a.Den*b.Den)
}

// MulPart returns a product.
func MulPart(a, b api.Part) (api.Part, api.Errno) {
	if !validPart(a) || !validPart(b) {
		return api.Part{}, api.ErrArg
	}
	return lowest(a.Num*b.Num, a.Den*b.Den)
}

// Of returns a part of a number.
func Of(n int, p api.Part) (api.Range, api.Errno) {
	if !validPart(p) {
		return api.Range{}, api.ErrArg
	}
	if !validNumber(n) {
		return api.Range{}, api.ErrRange
	}
	return within(quotientOf(n, p.Num, p.Den).around())
}

// validNumber reports whether a number can be an end of a range.
func validNumber(n int) bool {
	return -api.MaxSpan <= n && n <= api.MaxSpan
}

// fits reports whether a numerator and a denominator are within what is valid.
func fits(num, den int) bool {
	return -api.MaxPart <= num && num <= api.MaxPart && 1 <= den && den <= api.MaxPart
}

// validPart reports whether a part is valid.
func validPart(p api.Part) bool {
	return fits(p.Num, p.Den) && divisor(p.Num, p.Den) == 1
}

// lowest returns a fraction in lowest terms; its denominator is not 0.
func lowest(num, den int) (api.Part, api.Errno) {
	by := divisor(num, den)
	if den < 0 {
		by = -by
	}
	num, den = num/by, den/by
	if !fits(num, den) {
		return api.Part{}, api.ErrOver
	}
	return api.Part{Num: num, Den: den}, api.OK
}

// divisor returns the greatest number that divides both numbers, of which the second one is not 0.
func divisor(a, b int) int {
	for b != 0 {
		a, b = b, a%b
	}
	if a < 0 {
		return -a
	}
	return a
}
