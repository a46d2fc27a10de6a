// Package nat is layer 1: natural numbers as decimal texts. See shared/doc/01-nat.md.
package nat

import (
	"cmp"
	"strconv"
	"strings"

	"privhouse/api"
	"privhouse/exact"
)

// Check reports whether a text is a natural number.
func Check(a api.Num) api.Errno {
	if a == "" || a[0] == '0' && len(a) > 1 {
		return api.ErrForm
	}
	for i := range len(a) {
		if a[i] < '0' || a[i] > '9' {
			return api.ErrForm
		}
	}
	if len(a) > api.MaxDigits {
		return api.ErrOver
	}
	return api.OK
}

// checkAll returns the error of the first number that has one.
func checkAll(numbers ...api.Num) api.Errno {
	for _, a := range numbers {
		if e := Check(a); e != api.OK {
			return e
		}
	}
	return api.OK
}

// parse returns the value of a text that Check accepts.
func parse(a api.Num) exact.Natural { return exact.Parse(string(a)) }

// result returns a number as text, or ErrOver if it is too long for one.
func result(x exact.Natural) (api.Num, api.Errno) {
	if x.Digits() > api.MaxDigits {
		return "", api.ErrOver
	}
	return api.Num(x.Text()), api.OK
}

// Add returns a sum.
func Add(a, b api.Num) (api.Num, api.Errno) {
	if e := checkAll(a, b); e != api.OK {
		return "", e
	}
	return result(parse(a).Plus(parse(b)))
}

// Sub returns a difference, which must not be negative.
func Sub(a, b api.Num) (api.Num, api.Errno) {
	if e := checkAll(a, b); e != api.OK {
		return "", e
	}
	if compare(a, b) < 0 {
		return "", api.ErrRange
	}
	return result(parse(a).Minus(parse(b)))
}

// Mul returns a product.
func Mul(a, b api.Num) (api.Num, api.Errno) {
	if e := checkAll(a, b); e != api.OK {
		return "", e
	}
	return result(parse(a).Times(parse(b)))
}

// DivMod returns a quotient and a remainder.
func DivMod(a, b api.Num) (q, r api.Num, e api.Errno) {
	if e := checkAll(a, b); e != api.OK {
		return "", "", e
	}
	if b == "0" {
		return "", "", api.ErrZero
	}
	quotient, rest := parse(a).Divide(parse(b))
	return api.Num(quotient.Text()), api.Num(rest.Text()), api.OK
}

// Gcd returns the greatest common divisor, which is 0 for 0 and 0.
func Gcd(a, b api.Num) (api.Num, api.Errno) {
	if e := checkAll(a, b); e != api.OK {
		return "", e
	}
	return result(parse(a).CommonDivisor(parse(b)))
}

// Pow returns a power.
func Pow(a api.Num, n int) (api.Num, api.Errno) {
	if e := Check(a); e != api.OK {
		return "", e
	}
	if n < 0 {
		return "", api.ErrRange
	}
	power, ok := parse(a).Power(uint64(n), api.MaxDigits)
	if !ok {
		return "", api.ErrOver
	}
	return result(power)
}

// compare compares two natural numbers. Without leading zeros the longer one is the greater one.
func compare(a, b api.Num) int {
	if len(a) != len(b) {
		return cmp.Compare(len(a), len(b))
	}
	return strings.Compare(string(a), string(b))
}

// Cmp compares two numbers; it returns 0 if one of the texts is none.
func Cmp(a, b api.Num) int {
	if checkAll(a, b) != api.OK {
		return 0
	}
	return compare(a, b)
}

// FromInt returns an int as a number.
func FromInt(n int) (api.Num, api.Errno) {
	if n < 0 {
		return "", api.ErrRange
	}
	return api.Num(strconv.Itoa(n)), api.OK
}

// ToInt returns a number as an int.
func ToInt(a api.Num) (int, api.Errno) {
	if e := Check(a); e != api.OK {
		return 0, e
	}
	n, err := strconv.Atoi(string(a))
	if err != nil {
		return 0, api.ErrRange
	}
	return n, api.OK
}

// Bits returns the number of binary digits.
func Bits(a api.Num) (int, api.Errno) {
	if e := Check(a); e != api.OK {
		return 0, e
	}
	return parse(a).BinaryDigits(), api.OK
}
