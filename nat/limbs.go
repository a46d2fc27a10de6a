package nat

import (
	"cmp"
	"math/bits"
	"strconv"
	"strings"

	"privhouse/api"
)

// Each limb holds width decimal digits, so that the product of two limbs, and several such products added up, fit into a uint64.
const (
	width = 9
	base  = 1000000000
)

// limbs is a natural number, the least significant limb first. The last limb is not 0, so that 0 has no limbs. Methods do not change their operands unless they say so.
type limbs []uint64

// least returns the smallest of its arguments.
func least[T cmp.Ordered](first T, others ...T) T {
	for _, x := range others {
		if x < first {
			first = x
		}
	}
	return first
}

// greatest returns the greatest of its arguments.
func greatest[T cmp.Ordered](first T, others ...T) T {
	for _, x := range others {
		if x > first {
			first = x
		}
	}
	return first
}

// parse returns the value of a text that Check accepts, in memory of its own.
func parse(a api.Num) limbs {
	x := make(limbs, 0, len(a)/width+1)
	for end := len(a); end > 0; end -= width {
		var limb uint64
		for _, digit := range []byte(a[greatest(end-width, 0):end]) {
			limb = limb*10 + uint64(digit-'0')
		}
		x = append(x, limb)
	}
	return x.trim()
}

// text returns the decimal digits.
func (x limbs) text() api.Num {
	if len(x) == 0 {
		return "0"
	}
	var out strings.Builder
	var buffer [width + 1]byte
	out.Grow(width * len(x))
	out.Write(strconv.AppendUint(buffer[:0], x[len(x)-1], 10))
	for i := len(x) - 2; i >= 0; i-- {
		// The base in front of the limb makes strconv write its leading zeros.
		out.Write(strconv.AppendUint(buffer[:0], base+x[i], 10)[1:])
	}
	return api.Num(out.String())
}

// fits reports whether the number has at most MaxDigits digits.
func (x limbs) fits() bool {
	if len(x) == 0 {
		return true
	}
	top := strconv.FormatUint(x[len(x)-1], 10)
	return width*(len(x)-1)+len(top) <= api.MaxDigits
}

// trim cuts off the leading limbs that are 0.
func (x limbs) trim() limbs {
	for len(x) > 0 && x[len(x)-1] == 0 {
		x = x[:len(x)-1]
	}
	return x
}

// at returns the limb of a place, which is 0 outside the number.
func (x limbs) at(place int) uint64 {
	if place < 0 || place >= len(x) {
		return 0
	}
	return x[place]
}

// less reports whether x is less than y.
func (x limbs) less(y limbs) bool {
	if len(x) != len(y) {
		return len(x) < len(y)
	}
	for i := len(x) - 1; i >= 0; i-- {
		if x[i] != y[i] {
			return x[i] < y[i]
		}
	}
	return false
}

func (x limbs) plus(y limbs) limbs {
	sum := make(limbs, greatest(len(x), len(y))+1)
	var carry uint64
	for i := range sum {
		limb := x.at(i) + y.at(i) + carry
		sum[i] = limb % base
		carry = limb / base
	}
	return sum.trim()
}

// minus returns the difference; y must not be greater than x.
func (x limbs) minus(y limbs) limbs {
	difference := make(limbs, len(x))
	var borrow uint64
	for i, limb := range x {
		limb += base - y.at(i) - borrow
		difference[i] = limb % base
		borrow = 1 - limb/base
	}
	return difference.trim()
}

func (x limbs) times(y limbs) limbs {
	// A column is added up below this multiple of the base, so that one more product does not wrap around; what was taken out is put into the carry.
	const ceiling = 8 * base * base
	product := make(limbs, len(x)+len(y))
	var carry uint64
	for place := range product {
		first := greatest(0, place-len(y)+1)
		last := least(place, len(x)-1)
		column, taken := carry, uint64(0)
		for i := first; i <= last; i++ {
			column += x[i] * y[place-i]
			if column >= ceiling {
				column -= ceiling
				taken += ceiling / base
			}
		}
		product[place] = column % base
		carry = column/base + taken
	}
	return product.trim()
}

// power returns x multiplied n times, and whether that fits.
func (x limbs) power(n int) (limbs, bool) {
	result, square := limbs{1}, x
	advance := func() bool {
		square = square.times(square)
		return square.fits()
	}
	for {
		if n%2 == 1 {
			result = result.times(square)
		}
		n /= 2
		if n == 0 {
			return result, result.fits()
		}
		// The highest bit of n is still to come, so what does not fit now only grows (0 and 1 always fit).
		if !result.fits() || !advance() {
			return nil, false
		}
	}
}

// binaryDigits returns the number of binary digits.
func (x limbs) binaryDigits() int {
	// As 2^chunk is less than the base, a number of several limbs is not 0 after so many halvings.
	const chunk = 29
	count := 0
	rest := append(limbs(nil), x...)
	for len(rest) > 1 {
		rest.halve(chunk)
		rest = rest.trim()
		count += chunk
	}
	return count + bits.Len64(rest.at(0))
}

// halve divides x by 2^n in place; n is at most 29.
func (x limbs) halve(n int) {
	var rest uint64
	for i := len(x) - 1; i >= 0; i-- {
		value := rest*base + x[i]
		x[i] = value >> n
		rest = value & (1<<n - 1)
	}
}
