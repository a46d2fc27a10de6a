package rat_test

import (
	"testing"

	"privhouse/api"
	"privhouse/rat"
)

func TestField(t *testing.T) { // P2.5
	ok := must(t)
	numbers := samples(t)
	for i, a := range numbers {
		if ok(rat.Add(a, "0")) != a || ok(rat.Mul(a, "1")) != a || ok(rat.Mul(a, "0")) != "0" || ok(rat.Add(a, ok(rat.Neg(a)))) != "0" {
			t.Error("not neutral", a)
		}
		for j, b := range numbers {
			sum, product := ok(rat.Add(a, b)), ok(rat.Mul(a, b))
			if ok(rat.Add(b, a)) != sum || ok(rat.Mul(b, a)) != product {
				t.Error("not commutative", a, b)
			}
			if ok(rat.Sub(sum, b)) != a || b != "0" && ok(rat.Div(product, b)) != a {
				t.Error("not undone", a, b)
			}
			c := numbers[(7*i+3*j+1)%len(numbers)]
			if ok(rat.Add(sum, c)) != ok(rat.Add(a, ok(rat.Add(b, c)))) || ok(rat.Mul(product, c)) != ok(rat.Mul(a, ok(rat.Mul(b, c)))) {
				t.Error("not associative", a, b, c)
			}
			if ok(rat.Mul(c, sum)) != ok(rat.Add(ok(rat.Mul(c, a)), ok(rat.Mul(c, b)))) {
				t.Error("not distributive", a, b, c)
			}
		}
	}
}

func TestInverses(t *testing.T) { // P2.3, P2.5
	ok := must(t)
	for _, a := range samples(t)[1:] {
		inverse := ok(rat.Inv(a))
		if ok(rat.Mul(a, inverse)) != "1" || ok(rat.Inv(inverse)) != a || ok(rat.Div("1", a)) != inverse || ok(rat.Div(a, a)) != "1" {
			t.Error(a)
		}
		for n := -6; n <= 6; n++ {
			if ok(rat.Mul(ok(rat.Pow(a, n)), a)) != ok(rat.Pow(a, n+1)) || ok(rat.Pow(inverse, n)) != ok(rat.Pow(a, -n)) {
				t.Error(a, n)
			}
		}
	}
}

// order returns the result of a comparison.
func order(t *testing.T, a, b api.Num) int {
	t.Helper()
	c, e := rat.Cmp(a, b)
	if e != api.OK || c < -1 || c > 1 {
		t.Fatal(short(a), short(b), c, e)
	}
	return c
}

func TestTotalOrder(t *testing.T) { // P2.6
	ok := must(t)
	numbers := samples(t)
	for _, a := range numbers {
		for _, b := range numbers {
			c := order(t, a, b)
			if order(t, b, a) != -c || (c == 0) != (a == b) {
				t.Error("not total", a, b)
			}
			if s, e := rat.Sign(ok(rat.Sub(a, b))); s != c || e != api.OK {
				t.Error("not the sign of the difference", a, b)
			}
			for _, x := range numbers {
				if c < 0 && order(t, b, x) < 0 && order(t, a, x) >= 0 {
					t.Error("not transitive", a, b, x)
				}
			}
		}
	}
}

func TestOperationsKeepTheOrder(t *testing.T) { // P2.6
	ok := must(t)
	numbers := samples(t)
	for i, a := range numbers {
		for j, b := range numbers {
			c := order(t, a, b)
			x := numbers[(5*i+11*j)%len(numbers)]
			if order(t, ok(rat.Add(a, x)), ok(rat.Add(b, x))) != c {
				t.Error("Add", a, b, x)
			}
			if order(t, ok(rat.Mul(a, x)), ok(rat.Mul(b, x))) != c*order(t, x, "0") {
				t.Error("Mul", a, b, x)
			}
		}
	}
}

func TestRoundedNumbersAreNext(t *testing.T) { // P2.4, P2.6
	ok := must(t)
	for _, a := range samples(t) {
		floor, ceil := ok(rat.Floor(a)), ok(rat.Ceil(a))
		for _, x := range []api.Num{floor, ceil} {
			if _, d, e := rat.Parts(x); d != "1" || e != api.OK {
				t.Error(a, x)
			}
		}
		if order(t, floor, a) > 0 || order(t, a, ok(rat.Add(floor, "1"))) >= 0 || order(t, ceil, a) < 0 || order(t, a, ok(rat.Sub(ceil, "1"))) <= 0 {
			t.Error(a, floor, ceil)
		}
	}
}

func TestEqualNumbersHaveEqualTexts(t *testing.T) { // P2.7
	ok := must(t)
	for _, a := range samples(t) {
		n, d, e := rat.Parts(a)
		if e != api.OK || ok(rat.Make(n, d)) != a || ok(rat.Div(n, d)) != a {
			t.Error(a, n, d, e)
		}
		for _, k := range []api.Num{"1", "2", "3", "10", "6469693230", "1000000000", ok(rat.Pow("6", 80)), nines(300)} {
			if ok(rat.Make(ok(rat.Mul(k, n)), ok(rat.Mul(k, d)))) != a {
				t.Error(a, k)
			}
		}
	}
}

func TestSameCallsSameResults(t *testing.T) { // P2
	for _, f := range binaries() {
		for _, a := range append(samples(t), "x", most) {
			for _, b := range []api.Num{"0", "-5/6", most, "2/4"} {
				c, e := f.call(a, b)
				if again, d := f.call(a, b); again != c || d != e {
					t.Error(f.name, short(a), short(b))
				}
			}
		}
	}
}
