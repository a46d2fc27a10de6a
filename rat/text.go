package rat

import (
	"strings"

	"privhouse/api"
	"privhouse/exact"
	"privhouse/nat"
)

// cut returns the texts before and after the /, and whether there is one; the denominator of an integer is 1.
func cut(a api.Num) (n, d api.Num, divided bool) {
	before, after, divided := strings.Cut(string(a), "/")
	if !divided {
		after = "1"
	}
	return api.Num(before), api.Num(after), divided
}

// checkInteger returns ErrForm if a text is not an integer, ErrOver if it has too many digits.
func checkInteger(a api.Num) api.Errno {
	if a == "-0" {
		return api.ErrForm
	}
	return nat.Check(api.Num(strings.TrimPrefix(string(a), "-")))
}

// checkParts returns the error of the texts before and after the /, apart from common divisors. A wrong form goes before too many digits, on either side.
func checkParts(n, d api.Num, divided bool) api.Errno {
	top, bottom := checkInteger(n), nat.Check(d)
	switch {
	case bottom == api.ErrForm || divided && (n == "0" || d == "0" || d == "1"):
		return api.ErrForm
	case top != api.OK:
		return top
	}
	return bottom
}

// parse returns the fraction of an integer and a natural number, not in lowest terms.
func parse(n, d api.Num) exact.Fraction {
	digits, negative := strings.CutPrefix(string(n), "-")
	return exact.Fraction{Negative: negative, Top: exact.Parse(digits), Bottom: exact.Parse(string(d))}
}

// read returns the value of a text, or the error of Check.
func read(a api.Num) (exact.Fraction, api.Errno) {
	n, d, divided := cut(a)
	if e := checkParts(n, d, divided); e != api.OK {
		return exact.Fraction{}, e
	}
	x := parse(n, d)
	if !x.Top.CommonDivisor(x.Bottom).IsOne() {
		return exact.Fraction{}, api.ErrForm
	}
	return x, api.OK
}

// write returns the text of a number, or ErrOver if it is too long for one.
func write(x exact.Fraction) (api.Num, api.Errno) {
	if !x.Fits(api.MaxDigits) {
		return "", api.ErrOver
	}
	return api.Num(x.Text()), api.OK
}
