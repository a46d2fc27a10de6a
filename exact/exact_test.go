package exact_test

import (
	"slices"
	"strings"
	"testing"

	"privhouse/exact"
)

// The tests of nat and rat check most of this package; these here are about what the limits of both hide: longer numbers, and operands that are used again.

// wides returns numbers of up to 12,000 digits, among them neighbours and multiples of each other.
func wides() []exact.Natural {
	one := exact.One()
	a := exact.Parse("3" + strings.Repeat("0959", 1500))
	b := exact.Parse(strings.Repeat("9", 8000))
	c, _ := exact.Parse("7").Power(9000, 8000)
	x, y := one, one
	for range 20000 {
		x, y = y, x.Plus(y)
	}
	return []exact.Natural{one, exact.Parse("999999999"), exact.Parse("1000000000000000000"), a, b, c, x, y, a.Times(exact.Parse("6")), c.Plus(one), b.Minus(one), a.Times(a)}
}

func same(a, b exact.Natural) bool { return a.Compare(b) == 0 }

// residue returns the number modulo a small one, from its digits alone.
func residue(a exact.Natural, modulus uint64) uint64 {
	var x uint64
	for _, digit := range []byte(a.Text()) {
		x = (x*10 + uint64(digit-'0')) % modulus
	}
	return x
}

func TestWideNumbers(t *testing.T) {
	const modulus = 2147483647
	for _, a := range wides() {
		if text := a.Text(); len(text) != a.Digits() || !same(exact.Parse(text), a) {
			t.Error(len(text), a.Digits())
		}
		for _, b := range wides() {
			product, sum := a.Times(b), a.Plus(b)
			if residue(product, modulus) != residue(a, modulus)*residue(b, modulus)%modulus || residue(sum, modulus) != (residue(a, modulus)+residue(b, modulus))%modulus {
				t.Error("wrong product or sum", a.Digits(), b.Digits())
			}
			quotient, rest := a.Divide(b)
			if rest.Compare(b) >= 0 || !same(quotient.Times(b).Plus(rest), a) || !same(a.Over(b), quotient) {
				t.Error("wrong quotient", a.Digits(), b.Digits())
			}
			if !same(product.Over(b), a) || !same(sum.Minus(a), b) {
				t.Error("not undone", a.Digits(), b.Digits())
			}
		}
	}
}

func TestWideCommonDivisors(t *testing.T) {
	factor := exact.Parse("1" + strings.Repeat("0", 700) + "7")
	for i, a := range wides() {
		for _, b := range wides()[:i+1] {
			g := a.CommonDivisor(b)
			p, r := a.Divide(g)
			q, s := b.Divide(g)
			if !r.IsZero() || !s.IsZero() || !same(b.CommonDivisor(a), g) || !p.CommonDivisor(q).IsOne() {
				t.Error(i, a.Digits(), b.Digits(), g.Digits())
			}
			if !same(a.Times(factor).CommonDivisor(b.Times(factor)), g.Times(factor)) {
				t.Error(i, a.Digits(), b.Digits(), g.Digits())
			}
		}
	}
}

func TestPowersGiveUp(t *testing.T) {
	ten := exact.Parse("10")
	for _, x := range []struct {
		n      uint64
		digits int
		ok     bool
	}{{0, 1, true}, {1, 1, false}, {1, 2, true}, {8999, 9000, true}, {9000, 9000, false}, {1 << 63, 9000, false}, {1<<64 - 1, 9000, false}} {
		power, ok := ten.Power(x.n, x.digits)
		if ok != x.ok || ok && power.Text() != "1"+strings.Repeat("0", int(x.n)) {
			t.Error(x, power.Digits(), ok)
		}
	}
	for _, a := range []exact.Natural{nil, exact.One()} {
		if power, ok := a.Power(1<<64-1, 1); !ok || !same(power, a) {
			t.Error(power, ok)
		}
	}
}

// fractions returns fractions whose parts have several limbs.
func fractions() []exact.Fraction {
	var out []exact.Fraction
	for i, a := range wides()[:8] {
		for _, b := range wides()[i:9] {
			out = append(out, exact.Reduced(i%2 == 1, a, b))
		}
	}
	return append(out, exact.Reduced(true, nil, exact.Parse("12")))
}

func copied(x exact.Fraction) exact.Fraction {
	return exact.Fraction{Negative: x.Negative, Top: slices.Clone(x.Top), Bottom: slices.Clone(x.Bottom)}
}

func equal(x, y exact.Fraction) bool {
	return x.Negative == y.Negative && same(x.Top, y.Top) && same(x.Bottom, y.Bottom)
}

func TestOperandsStay(t *testing.T) {
	list := fractions()[:24]
	for _, x := range list {
		for _, y := range list {
			a, b := copied(x), copied(y)
			sum, product := x.Plus(y), x.Times(y)
			x.Compare(y)
			x.Top.CommonDivisor(y.Bottom)
			x.Top.Divide(y.Bottom)
			x.Inverse().Floor()
			x.Top.BinaryDigits()
			x.Power(3, 9000)
			if !equal(x, a) || !equal(y, b) {
				t.Fatal("an operand has changed", a.Text(), b.Text())
			}
			if !equal(sum, x.Plus(y)) || !equal(product, x.Times(y)) {
				t.Fatal("a result has changed", a.Text(), b.Text())
			}
		}
	}
}

func TestWideFractions(t *testing.T) {
	for _, x := range fractions() {
		if !x.Top.CommonDivisor(x.Bottom).IsOne() || x.IsZero() && x.Negative {
			t.Error(x.Text())
		}
		if !x.Plus(x.Negated()).IsZero() || !x.Plus(x.Negated()).IsWhole() || x.Compare(x) != 0 || x.Compare(x.Magnitude()) > 0 {
			t.Error(x.Text())
		}
		if x.IsZero() {
			continue
		}
		if one := x.Times(x.Inverse()); one.Text() != "1" {
			t.Error(x.Text(), one.Text())
		}
		if rest := x.Plus(x.Floor().Negated()); rest.Negative || rest.Compare(exact.Reduced(false, exact.One(), exact.One())) >= 0 {
			t.Error(x.Text(), rest.Text())
		}
	}
}
