package rat_test

import (
	"strconv"
	"strings"
	"testing"

	"privhouse/api"
	"privhouse/rat"
)

// zeros, nines and threes return texts of so many equal digits.
func zeros(n int) api.Num  { return api.Num(strings.Repeat("0", n)) }
func nines(n int) api.Num  { return api.Num(strings.Repeat("9", n)) }
func threes(n int) api.Num { return api.Num(strings.Repeat("3", n)) }

// ten returns a power of 10.
func ten(n int) api.Num { return "1" + zeros(n) }

// The greatest natural number, the least one of as many digits, the greatest one but one, and one of a digit too many.
var (
	most   = nines(api.MaxDigits)
	high   = ten(api.MaxDigits - 1)
	almost = nines(api.MaxDigits-1) + "8"
	long   = ten(api.MaxDigits)
)

// short makes long texts fit for messages.
func short(a api.Num) string {
	if len(a) <= 60 {
		return string(a)
	}
	return string(a[:20]) + ".." + string(a[len(a)-20:]) + " (" + strconv.Itoa(len(a)) + ")"
}

type unary struct {
	name string
	call func(a api.Num) (api.Num, api.Errno)
}

type binary struct {
	name string
	call func(a, b api.Num) (api.Num, api.Errno)
}

func unaries() []unary {
	return []unary{{"Neg", rat.Neg}, {"Abs", rat.Abs}, {"Inv", rat.Inv}, {"Floor", rat.Floor}, {"Ceil", rat.Ceil}}
}

func binaries() []binary {
	return []binary{{"Add", rat.Add}, {"Sub", rat.Sub}, {"Mul", rat.Mul}, {"Div", rat.Div}, {"Min", rat.Min}, {"Max", rat.Max}}
}

// must returns a result that has no error.
func must(t *testing.T) func(a api.Num, e api.Errno) api.Num {
	return func(a api.Num, e api.Errno) api.Num {
		t.Helper()
		if e != api.OK || rat.Check(a) != api.OK {
			t.Fatal(short(a), e)
		}
		return a
	}
}

// expect compares a result with the wanted text.
func expect(t *testing.T, want api.Num) func(a api.Num, e api.Errno) {
	return func(a api.Num, e api.Errno) {
		t.Helper()
		if a != want || e != api.OK {
			t.Error(short(a), e, "instead of", short(want))
		}
	}
}

// refuse checks that a result is an error and nothing else.
func refuse(t *testing.T, want api.Errno) func(a api.Num, e api.Errno) {
	return func(a api.Num, e api.Errno) {
		t.Helper()
		if a != "" || e != want {
			t.Error(short(a), e, "instead of", want)
		}
	}
}

// plain is a small fraction, with a positive denominator, that may have common divisors.
type plain struct{ n, d int }

func (x plain) text() api.Num {
	k, rest := x.n, x.d
	for rest != 0 {
		k, rest = rest, k%rest
	}
	k = max(k, -k)
	if x.d == k {
		return api.Num(strconv.Itoa(x.n / k))
	}
	return api.Num(strconv.Itoa(x.n/k) + "/" + strconv.Itoa(x.d/k))
}

func (x plain) plus(y plain) plain  { return plain{x.n*y.d + y.n*x.d, x.d * y.d} }
func (x plain) times(y plain) plain { return plain{x.n * y.n, x.d * y.d} }

// inverse returns the inverse of a number other than 0.
func (x plain) inverse() plain {
	if x.n < 0 {
		return plain{-x.d, -x.n}
	}
	return plain{x.d, x.n}
}

// floor goes down from a number that is great enough.
func (x plain) floor() int {
	k := max(x.n, 0)
	for k*x.d > x.n {
		k--
	}
	return k
}

// plains returns small numbers of both signs, in all terms.
func plains() []plain {
	var out []plain
	for n := -7; n <= 7; n++ {
		for d := 1; d <= 7; d++ {
			out = append(out, plain{n, d})
		}
	}
	return append(out, plain{1000000007, 3}, plain{-999999999, 1000000}, plain{1, 1000000}, plain{-1000000, 999999})
}

// The images of rational numbers modulo a prime are added and multiplied as the numbers are; they are computed from the digits alone. No denominator in the tests is a multiple of this prime.
const prime = 2147483647

// image returns the image of a number.
func image(t *testing.T, a api.Num) uint64 {
	t.Helper()
	n, d, divided := strings.Cut(string(a), "/")
	digits, negative := strings.CutPrefix(n, "-")
	x := residue(digits)
	if divided {
		if residue(d) == 0 {
			t.Fatal(short(a))
		}
		x = x * inverse(residue(d)) % prime
	}
	if negative {
		x = (prime - x) % prime
	}
	return x
}

func residue(digits string) uint64 {
	var x uint64
	for i := range len(digits) {
		x = (x*10 + uint64(digits[i]-'0')) % prime
	}
	return x
}

// inverse uses that the power of the prime minus 1 is 1.
func inverse(x uint64) uint64 {
	result := uint64(1)
	for n := prime - 2; n > 0; n /= 2 {
		if n%2 == 1 {
			result = result * x % prime
		}
		x = x * x % prime
	}
	return result
}

// samples returns numbers of both signs and many lengths; among them are numbers that differ by little, and some with common divisors of their denominators.
func samples(t *testing.T) []api.Num {
	ok := must(t)
	out := []api.Num{"0", "1", "2", "1/2", "1/3", "2/3", "5/6", "7/4", "12", "999999999", "1000000000", "1/1000000000", "1000000001/1000000000", "999999999/1000000000"}
	out = append(out, ok(rat.Pow("3/2", 40)), ok(rat.Pow("2/3", 90)), ok(rat.Pow("6/5", 70)), ok(rat.Pow("10/7", 300)))
	out = append(out, ok(rat.Add(ok(rat.Pow("10/7", 300)), ok(rat.Pow("1/14", 100)))), ten(50)+"/"+nines(49), nines(120)+"/"+ten(77), "1/"+nines(200))
	for _, a := range out[1:] {
		out = append(out, "-"+a)
	}
	return out
}
