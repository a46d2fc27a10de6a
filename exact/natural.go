// Package exact computes with natural numbers and fractions of any size. It checks no arguments and sets no limits: that is up to the layers, whose texts are limited. Methods do not change their operands, and results may share memory with them.
package exact

import (
	"cmp"
	"math/bits"
	"strconv"
	"strings"
)

// Each limb holds width decimal digits, so that the product of two limbs, and several such products added up, fit into a uint64.
const (
	width = 9
	base  = 1000000000
)

// Natural is a natural number, the least significant limb first. The last limb is not 0, so that 0 has no limbs.
type Natural []uint64

// least returns the smallest of its arguments.
func least[T cmp.Ordered](first T, others ...T) T {
	for _, x := range others {
		if x < first {
			first = x
		}
	}
	return first
}

// greatest returns the greatest of its arguments.
func greatest[T cmp.Ordered](first T, others ...T) T {
	for _, x := range others {
		if x > first {
			first = x
		}
	}
	return first
}

// One returns the number 1.
func One() Natural { return Natural{1} }

// Parse returns the value of a text of one or more digits.
func Parse(digits string) Natural {
	x := make(Natural, 0, len(digits)/width+1)
	for end := len(digits); end > 0; end -= width {
		var limb uint64
		for _, digit := range []byte(digits[greatest(end-width, 0):end]) {
			limb = limb*10 + uint64(digit-'0')
		}
		x = append(x, limb)
	}
	return x.trim()
}

// Text returns the decimal digits, without leading zeros.
func (x Natural) Text() string {
	if len(x) == 0 {
		return "0"
	}
	var out strings.Builder
	var buffer [width + 1]byte
	out.Grow(width * len(x))
	out.Write(strconv.AppendUint(buffer[:0], x[len(x)-1], 10))
	for i := len(x) - 2; i >= 0; i-- {
		// The base in front of the limb makes strconv write its leading zeros.
		out.Write(strconv.AppendUint(buffer[:0], base+x[i], 10)[1:])
	}
	return out.String()
}

// Digits returns the number of decimal digits, which is 1 for 0.
func (x Natural) Digits() int {
	if len(x) == 0 {
		return 1
	}
	count := width * (len(x) - 1)
	for top := x[len(x)-1]; top > 0; top /= 10 {
		count++
	}
	return count
}

// IsZero reports whether x is 0.
func (x Natural) IsZero() bool { return len(x) == 0 }

// IsOne reports whether x is 1.
func (x Natural) IsOne() bool { return len(x) == 1 && x[0] == 1 }

// trim cuts off the leading limbs that are 0.
func (x Natural) trim() Natural {
	for len(x) > 0 && x[len(x)-1] == 0 {
		x = x[:len(x)-1]
	}
	return x
}

// at returns the limb of a place, which is 0 outside the number.
func (x Natural) at(place int) uint64 {
	if place < 0 || place >= len(x) {
		return 0
	}
	return x[place]
}

// Compare returns -1, 0 or 1 if x is less than, equal to or greater than y.
func (x Natural) Compare(y Natural) int {
	if len(x) != len(y) {
		return cmp.Compare(len(x), len(y))
	}
	for i := len(x) - 1; i >= 0; i-- {
		if x[i] != y[i] {
			return cmp.Compare(x[i], y[i])
		}
	}
	return 0
}

// Plus returns the sum.
func (x Natural) Plus(y Natural) Natural {
	sum := make(Natural, greatest(len(x), len(y))+1)
	var carry uint64
	for i := range sum {
		limb := x.at(i) + y.at(i) + carry
		sum[i] = limb % base
		carry = limb / base
	}
	return sum.trim()
}

// Minus returns the difference; y must not be greater than x.
func (x Natural) Minus(y Natural) Natural {
	difference := make(Natural, len(x))
	var borrow uint64
	for i, limb := range x {
		limb += base - y.at(i) - borrow
		difference[i] = limb % base
		borrow = 1 - limb/base
	}
	return difference.trim()
}

// Times returns the product.
func (x Natural) Times(y Natural) Natural {
	// A column is added up below this multiple of the base, so that one more product does not wrap around; what was taken out is put into the carry.
	const ceiling = 8 * base * base
	if x.IsOne() {
		return y
	}
	if y.IsOne() {
		return x
	}
	product := make(Natural, len(x)+len(y))
	var carry uint64
	for place := range product {
		first := greatest(0, place-len(y)+1)
		last := least(place, len(x)-1)
		column, taken := carry, uint64(0)
		for i := first; i <= last; i++ {
			column += x[i] * y[place-i]
			if column >= ceiling {
				column -= ceiling
				taken += ceiling / base
			}
		}
		product[place] = column % base
		carry = column/base + taken
	}
	return product.trim()
}

// Power returns x multiplied n times, and whether it has at most so many digits. It gives up as soon as it does not.
func (x Natural) Power(n uint64, digits int) (Natural, bool) {
	result, square := One(), x
	advance := func() bool {
		square = square.Times(square)
		return square.Digits() <= digits
	}
	for {
		if n%2 == 1 {
			result = result.Times(square)
		}
		// The digits of n that are still to come make both numbers only grow (but for 0 and 1, which fit).
		if result.Digits() > digits {
			return nil, false
		}
		n /= 2
		if n == 0 {
			return result, true
		}
		if !advance() {
			return nil, false
		}
	}
}

// BinaryDigits returns the number of binary digits, which is 0 for 0.
func (x Natural) BinaryDigits() int {
	// As 2^chunk is less than the base, a number of several limbs is not 0 after so many halvings.
	const chunk = 29
	count := 0
	rest := append(Natural(nil), x...)
	for len(rest) > 1 {
		rest.halve(chunk)
		rest = rest.trim()
		count += chunk
	}
	return count + bits.Len64(rest.at(0))
}

// halve divides x by 2^n in place; n is at most 29.
func (x Natural) halve(n int) {
	var rest uint64
	for i := len(x) - 1; i >= 0; i-- {
		value := rest*base + x[i]
		x[i] = value >> n
		rest = value & (1<<n - 1)
	}
}
