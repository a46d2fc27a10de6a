package geom_test

import (
	"math"
	"testing"

	"privhouse/api"
	"privhouse/geom"
	"privhouse/rat"
)

// power returns x^k.
func power(x, k int) int {
	result := 1
	for range k {
		result *= x
	}
	return result
}

func fraction(top, bottom int) api.Num { return must(rat.Make(rat.Int(top), rat.Int(bottom))) }

func TestMasses(t *testing.T) { // P6.2
	for _, a := range ratios(8) {
		missing, both := a.bottom-a.top, a.bottom+a.top
		for k := range 16 {
			top, bottom := power(a.top, k), power(a.bottom, k)
			expect(t, fraction(missing*top, a.bottom*bottom))(geom.OneMass(a.text(), k))
			expect(t, fraction(missing*top, both*bottom))(geom.TwoMass(a.text(), k))
			expect(t, fraction(missing*top, both*bottom))(geom.TwoMass(a.text(), -k))
			expect(t, fraction(top, bottom))(geom.OneTail(a.text(), k))
			if k > 0 {
				expect(t, api.Num("0"))(geom.OneMass(a.text(), -k))
				expect(t, api.Num("1"))(geom.OneTail(a.text(), -k))
				expect(t, fraction(top*a.bottom, bottom*both))(geom.TwoTail(a.text(), k))
				expect(t, fraction(bottom*both-top*a.bottom, bottom*both))(geom.TwoTail(a.text(), 1-k))
			}
		}
	}
}

func TestIntegers(t *testing.T) { // P6.2
	for _, f := range kinds() {
		for _, a := range []api.Num{"0", "1/2", "2/3", longest()[0], longest()[3]} {
			for _, k := range []int{api.MaxPower + 1, -api.MaxPower - 1, 2 * api.MaxPower, 1 << 32, -1 << 32, math.MinInt, math.MinInt + 1, math.MaxInt} {
				refuse[api.Num](t, api.ErrRange)(f.mass(a, k))
				refuse[api.Num](t, api.ErrRange)(f.tail(a, k))
			}
		}
	}
	const most = api.MaxPower
	half := must(rat.Pow("1/2", most))
	third := must(rat.Div(half, "3"))
	expect(t, must(rat.Div(half, "2")))(geom.OneMass("1/2", most))
	expect(t, api.Num("0"))(geom.OneMass("1/2", -most))
	expect(t, half)(geom.OneTail("1/2", most))
	expect(t, api.Num("1"))(geom.OneTail("1/2", -most))
	expect(t, third)(geom.TwoMass("1/2", most))
	expect(t, third)(geom.TwoMass("1/2", -most))
	expect(t, must(rat.Mul("2", third)))(geom.TwoTail("1/2", most))
	expect(t, must(rat.Sub("1", third)))(geom.TwoTail("1/2", -most))
	// One-sided values are not negative, however long the powers of the ratio are.
	for _, a := range append(longest(), "1/3", "2/3") {
		expect(t, api.Num("0"))(geom.OneMass(a, -most))
		expect(t, api.Num("1"))(geom.OneTail(a, -most))
		expect(t, api.Num("1"))(geom.OneTail(a, 0))
	}
}

// longestAt checks that a function has a result for k whose denominator has as many digits as are allowed, and ErrOver for the next integer and one beyond it.
func longestAt(t *testing.T, f func(a api.Num, k int) (api.Num, api.Errno), a api.Num, k, next int) {
	t.Helper()
	result := must(f(a, k))
	if _, bottom, e := rat.Parts(result); e != api.OK || len(bottom) != api.MaxDigits {
		t.Error(a, k, len(bottom), e)
	}
	for _, beyond := range []int{next, next + 1000*(next-k)} {
		refuse[api.Num](t, api.ErrOver)(f(a, beyond))
	}
}

func TestLongestResults(t *testing.T) { // P6.2
	const most = api.MaxDigits
	// The denominators are 10^(k+1), 11*10^k, 10^k, 11*10^(k-1) and, for integers that are not positive, 11*10^(-k).
	longestAt(t, geom.OneMass, "1/10", most-2, most-1)
	longestAt(t, geom.TwoMass, "1/10", most-2, most-1)
	longestAt(t, geom.TwoMass, "1/10", 2-most, 1-most)
	longestAt(t, geom.OneTail, "1/10", most-1, most)
	longestAt(t, geom.TwoTail, "1/10", most-1, most)
	longestAt(t, geom.TwoTail, "1/10", 2-most, 1-most)
	// With two odd numbers the first factor has a common divisor: here the denominator is 2*3^k.
	longestAt(t, geom.TwoMass, "1/3", 8382, 8383)
	for _, f := range kinds() {
		for _, a := range longest() {
			for _, k := range []int{5, 100, api.MaxPower} {
				refuse[api.Num](t, api.ErrOver)(f.mass(a, k))
				refuse[api.Num](t, api.ErrOver)(f.tail(a, k))
			}
			must(f.mass(a, 0))
			must(f.tail(a, 0))
			must(f.mass(a, 2))
			must(f.tail(a, 3))
		}
	}
}

// A numerator, too, may have as many digits as are allowed.
func TestLongestNumerators(t *testing.T) { // P6.2
	const quarter = api.MaxParam
	a := repeated("9", quarter-1) + "8/" + repeated("9", quarter)
	top, bottom, _ := rat.Parts(must(geom.OneTail(a, 4)))
	if len(top) != api.MaxDigits || len(bottom) != api.MaxDigits {
		t.Error(len(top), len(bottom))
	}
	refuse[api.Num](t, api.ErrOver)(geom.OneTail(a, 5))
	top, bottom, _ = rat.Parts(must(geom.TwoTail("1/10", 2-api.MaxDigits)))
	if len(top) != api.MaxDigits || len(bottom) != api.MaxDigits {
		t.Error(len(top), len(bottom))
	}
}

func TestTailsAreSums(t *testing.T) { // P6.7
	for _, f := range kinds() {
		for _, a := range several() {
			limit := 12
			if len(a) > 100 {
				limit = 1
			}
			for k := -limit; k <= limit; k++ {
				sum := must(rat.Add(must(f.mass(a, k)), must(f.tail(a, k+1))))
				expect(t, sum)(f.tail(a, k))
			}
		}
		for _, k := range []int{-9999, -5000, -1000, 1000, 5000, 9999} {
			sum := must(rat.Add(must(f.mass("1/2", k)), must(f.tail("1/2", k+1))))
			expect(t, sum)(f.tail("1/2", k))
		}
	}
}

func TestTwoSidedMassesAreSymmetric(t *testing.T) { // P6.7
	for _, a := range several() {
		for k := range 3 {
			expect(t, must(geom.TwoMass(a, k)))(geom.TwoMass(a, -k))
		}
	}
	for _, k := range []int{17, 1000, 9999, 10000} {
		expect(t, must(geom.TwoMass("1/2", k)))(geom.TwoMass("1/2", -k))
	}
}

func TestNeighbouringMasses(t *testing.T) { // P6.7
	for _, a := range several() {
		limit := 8
		if len(a) > 100 {
			limit = 1
		}
		if a == "0" {
			continue
		}
		for k := -limit; k < limit; k++ {
			left, right := must(geom.TwoMass(a, k)), must(geom.TwoMass(a, k+1))
			quotient := must(rat.Div(right, left))
			want := a
			if k < 0 {
				want = must(rat.Inv(a))
			}
			expect(t, want)(quotient, api.OK)
		}
		for k := range limit {
			expect(t, a)(rat.Div(must(geom.OneMass(a, k+1)), must(geom.OneMass(a, k))))
		}
	}
}
