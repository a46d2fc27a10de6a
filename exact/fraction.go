package exact

import "cmp"

// Fraction is a rational number in lowest terms: Top and Bottom have no common divisor but 1, Bottom is not 0, and 0 is not negative.
type Fraction struct {
	Negative    bool
	Top, Bottom Natural
}

// Reduced returns a fraction in lowest terms; bottom must not be 0.
func Reduced(negative bool, top, bottom Natural) Fraction {
	common := top.CommonDivisor(bottom)
	return Fraction{negative, top.Over(common), bottom.Over(common)}.normal()
}

// normal takes the sign from 0.
func (x Fraction) normal() Fraction {
	x.Negative = x.Negative && !x.IsZero()
	return x
}

// Text returns the integer, or numerator and denominator with a / between them.
func (x Fraction) Text() string {
	text := x.Top.Text()
	if x.Negative {
		text = "-" + text
	}
	if x.IsWhole() {
		return text
	}
	return text + "/" + x.Bottom.Text()
}

// IsZero reports whether x is 0.
func (x Fraction) IsZero() bool { return x.Top.IsZero() }

// IsWhole reports whether x is an integer.
func (x Fraction) IsWhole() bool { return x.Bottom.IsOne() }

// Fits reports whether numerator and denominator have at most so many digits.
func (x Fraction) Fits(digits int) bool {
	return x.Top.Digits() <= digits && x.Bottom.Digits() <= digits
}

// Sign returns -1, 0 or 1.
func (x Fraction) Sign() int {
	switch {
	case x.IsZero():
		return 0
	case x.Negative:
		return -1
	}
	return 1
}

// Negated returns the negative.
func (x Fraction) Negated() Fraction {
	x.Negative = !x.Negative
	return x.normal()
}

// Magnitude returns the number without its sign.
func (x Fraction) Magnitude() Fraction {
	x.Negative = false
	return x
}

// Inverse returns the quotient of 1 and x, which must not be 0.
func (x Fraction) Inverse() Fraction {
	x.Top, x.Bottom = x.Bottom, x.Top
	return x
}

// Plus returns the sum.
func (x Fraction) Plus(y Fraction) Fraction {
	common := x.Bottom.CommonDivisor(y.Bottom)
	left, right := x.Bottom.Over(common), y.Bottom.Over(common)
	sum := Fraction{Negative: x.Negative}
	one, other := x.Top.Times(right), y.Top.Times(left)
	switch {
	case x.Negative == y.Negative:
		sum.Top = one.Plus(other)
	case one.Compare(other) >= 0:
		sum.Top = one.Minus(other)
	default:
		sum.Top, sum.Negative = other.Minus(one), y.Negative
	}
	// As x and y are in lowest terms, left and right have no common divisor with the numerator.
	rest := sum.Top.CommonDivisor(common)
	sum.Top, sum.Bottom = sum.Top.Over(rest), left.Times(y.Bottom.Over(rest))
	return sum.normal()
}

// Times returns the product.
func (x Fraction) Times(y Fraction) Fraction {
	// As x and y are in lowest terms, only the numerator of one and the denominator of the other one have common divisors.
	one, other := x.Top.CommonDivisor(y.Bottom), y.Top.CommonDivisor(x.Bottom)
	return Fraction{
		Negative: x.Negative != y.Negative,
		Top:      x.Top.Over(one).Times(y.Top.Over(other)),
		Bottom:   x.Bottom.Over(other).Times(y.Bottom.Over(one)),
	}.normal()
}

// Power returns x multiplied n times, and whether numerator and denominator have at most so many digits. It gives up as soon as they do not.
func (x Fraction) Power(n uint64, digits int) (Fraction, bool) {
	top, ok := x.Top.Power(n, digits)
	if !ok {
		return Fraction{}, false
	}
	bottom, ok := x.Bottom.Power(n, digits)
	if !ok {
		return Fraction{}, false
	}
	return Fraction{x.Negative && n%2 == 1, top, bottom}, true
}

// Compare returns -1, 0 or 1 if x is less than, equal to or greater than y.
func (x Fraction) Compare(y Fraction) int {
	if x.Sign() != y.Sign() {
		return cmp.Compare(x.Sign(), y.Sign())
	}
	if x.Negative {
		x, y = y, x
	}
	return x.Top.Times(y.Bottom).Compare(y.Top.Times(x.Bottom))
}

// Floor returns the greatest integer that is not greater than x.
func (x Fraction) Floor() Fraction {
	whole, rest := x.Top.Divide(x.Bottom)
	if x.Negative && !rest.IsZero() {
		whole = whole.Plus(One())
	}
	return Fraction{x.Negative, whole, One()}
}
