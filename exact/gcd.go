package exact

import "slices"

// CommonDivisor returns the greatest common divisor, which is 0 for 0 and 0. (Lehmer's algorithm: the first digits of both tell the quotients of several divisions at once.)
func (x Natural) CommonDivisor(y Natural) Natural {
	if x.Compare(y) < 0 {
		x, y = y, x
	}
	if len(y) > 2 {
		// The steps below change both in place.
		x, y = slices.Clone(x), slices.Clone(y)
	}
	for len(y) > 2 {
		if m := foresee(leading(x, y)); m != (matrix{1, 0, 0, 1}) {
			x, y = m.apply(x, y)
		} else {
			_, rest := x.Divide(y)
			x, y = y, rest
		}
	}
	if len(y) == 0 {
		return x
	}
	if len(x) > 2 {
		_, rest := x.Divide(y)
		x, y = y, rest
	}
	a, b := x.small(), y.small()
	for b != 0 {
		a, b = b, a%b
	}
	return Natural{a % base, a / base}.trim()
}

// small returns the value of a number of at most two limbs.
func (x Natural) small() uint64 { return x.at(1)*base + x.at(0) }

// leading returns the first 18 digits of x and the digits of y at the same places; x is not less than y and not 0.
func leading(x, y Natural) (a, b int64) {
	n := len(x)
	shift, rest := uint64(1), uint64(base)
	for x[n-1]*shift < base/10 {
		shift *= 10
		rest /= 10
	}
	part := func(z Natural) int64 {
		return int64((z.at(n-1)*base+z.at(n-2))*shift + z.at(n-3)/rest)
	}
	return part(x), part(y)
}

// matrix says how several divisions change a pair: it becomes [0]*x + [1]*y and [2]*x + [3]*y.
type matrix [4]int64

// foresee does the divisions of Euclid's algorithm with a and b, as long as they have the same quotients for all pairs that begin with these digits (Collins' condition). That keeps all elements of the matrix below the base.
func foresee(a, b int64) matrix {
	m := matrix{1, 0, 0, 1}
	for b != 0 {
		quotient, rest := a/b, a%b
		next := m[1] - quotient*m[3]
		if rest < size(next) || b-rest < size(next)+size(m[3]) {
			break
		}
		m = matrix{m[2], m[3], m[0] - quotient*m[2], next}
		a, b = b, rest
	}
	return m
}

func size(n int64) int64 { return greatest(n, -n) }

// apply changes a pair of numbers, in place where there is room; x is not less than y.
func (m matrix) apply(x, y Natural) (Natural, Natural) {
	for len(y) < len(x) {
		y = append(y, 0)
	}
	// The bias makes the sums positive, so that the divisions round down.
	const bias = 2 * base
	var carryX, carryY int64
	for i := range x {
		a, b := int64(x[i]), int64(y[i])
		sumX := uint64(m[0]*a + m[1]*b + carryX + bias*base)
		sumY := uint64(m[2]*a + m[3]*b + carryY + bias*base)
		x[i], carryX = sumX%base, int64(sumX/base)-bias
		y[i], carryY = sumY%base, int64(sumY/base)-bias
	}
	return x.trim(), y.trim()
}
