package moment_test

import (
	"strings"
	"testing"

	"privhouse/api"
	"privhouse/exact"
	"privhouse/moment"
	"privhouse/rat"
)

// wide returns a positive number as a fraction of any size, whole an int.
func wide(a api.Num) exact.Fraction {
	top, bottom, found := strings.Cut(string(a), "/")
	if !found {
		bottom = "1"
	}
	return exact.Reduced(false, exact.Parse(top), exact.Parse(bottom))
}

func whole(n int) exact.Fraction { return wide(rat.Int(n)) }

// digits returns the greater number of digits of the two parts of a fraction.
func digits(x exact.Fraction) int { return max(x.Top.Digits(), x.Bottom.Digits()) }

// The numbers on the way of To, in order.
const (
	thePower = iota
	theProduct
	theQuotient
	theNext
	theLate
	theSum
)

// way returns the numbers on the way of To.
func way(c api.Curve, order int, factor api.Num) [6]exact.Fraction {
	f, power := wide(factor), whole(1)
	for range order - 1 {
		power = power.Times(f)
	}
	weight := whole(raised(order-1, order-1)).Times(whole(raised(order, order)).Inverse())
	product := wide(c.M[order-2]).Times(weight)
	quotient := product.Times(power.Inverse())
	next := f.Plus(whole(1))
	late := next.Times(wide(c.Late))
	return [6]exact.Fraction{power, product, quotient, next, late, quotient.Plus(late)}
}

// border checks two curves, with a factor each, of which one number on the way of To has 4,000 digits, and 4,001 digits; all others have at most 4,000.
func border(t *testing.T, which, order int, fits api.Curve, factor api.Num, long api.Curve, other api.Num) {
	t.Helper()
	count(t, which, 4000, way(fits, order, factor))
	accept(t, fits, order, factor)
	count(t, which, 4001, way(long, order, other))
	refuse[api.Loss](t, api.ErrOver)(moment.To(long, order, other))
	refuse[choice](t, api.ErrOver)(chosen(moment.Best(long, other)))
}

// accept checks that To succeeds, whatever the digits of the numbers on the way.
func accept(t *testing.T, c api.Curve, order int, factor api.Num) {
	t.Helper()
	delta := way(c, order, factor)[theSum]
	if delta.Compare(whole(1)) > 0 {
		delta = whole(1)
	}
	expect(t, of(factor, api.Num(delta.Text())))(moment.To(c, order, factor))
}

// count checks that one of the numbers on the way has so many digits, and that the others have at most 4,000.
func count(t *testing.T, which, want int, numbers [6]exact.Fraction) {
	t.Helper()
	if n := digits(numbers[which]); n != want {
		t.Error("number", which, "has", n, "digits instead of", want)
	}
	for i, x := range numbers {
		// Without Late the sum is the quotient.
		same := which == theQuotient && i == theSum && numbers[theLate].IsZero()
		if n := digits(x); i != which && !same && n > 4000 {
			t.Error("number", i, "has", n, "digits, as well as number", which)
		}
	}
}

// lone is border for two M of an order, where all else is the same: it also checks that Best fails for this order alone.
func lone(t *testing.T, which, order int, fits, long, late, factor api.Num) {
	t.Helper()
	a, b := with(ones(late), order, fits), with(ones(late), order, long)
	border(t, which, order, a, factor, b, factor)
	for other := 2; other <= 8; other++ {
		if other != order {
			expect(t, must(moment.To(ones(late), other, factor)))(moment.To(b, other, factor))
		}
	}
	best := must(chosen(moment.Best(a, factor)))
	expect(t, best.loss)(moment.To(a, best.order, factor))
}

// near returns the greatest n with n*weight + more < 10^4000 that is 1 more than a multiple of step, and the next one.
func near(weight api.Num, more, step int) (fits, long api.Num) {
	most := must(rat.Floor(over(minus(nines(4000), rat.Int(more)), weight)))
	fits = plus("1", times(rat.Int(step), must(rat.Floor(over(minus(most, "1"), rat.Int(step))))))
	return fits, plus(fits, rat.Int(step))
}

// self returns n multiplied n times.
func self(n int) api.Num { return power(rat.Int(n), n) }

func TestDigitsOfPowers(t *testing.T) { // P10.4
	for order := 3; order <= 8; order++ {
		// The powers of digit*10^n have 4,000 digits for one digit, and 4,001 for another one.
		k := order - 1
		var fits, long api.Num
		for digit := 1; digit <= 10; digit++ {
			p := times(rat.Int(digit), ten(3999/k))
			switch n := k*(3999/k) + len(rat.Int(raised(digit, k))); {
			case n == 4000:
				fits = p
			case n == 4001 && long == "":
				long = p
			}
		}
		// M is a multiple of almost the whole power, so that the quotient is short.
		m := func(p api.Num) api.Curve {
			return with(ones("0"), order, times(power(p, k-1), rat.Int(raised(order, order))))
		}
		border(t, thePower, order, m(fits), fits, m(long), long)
	}
	// Only the last one of the orders is too long.
	factor := ten(600)
	for order := 2; order <= 7; order++ {
		must(moment.To(moment.None(), order, factor))
	}
	refuse[api.Loss](t, api.ErrOver)(moment.To(moment.None(), 8, factor))
	refuse[choice](t, api.ErrOver)(chosen(moment.Best(moment.None(), factor)))
	expect(t, choice{8, must(moment.To(moment.None(), 8, ten(570)))})(chosen(moment.Best(moment.None(), ten(570))))
}

func TestDigitsOfProducts(t *testing.T) { // P10.4
	for order := 2; order <= 8; order++ {
		k := order - 1
		// Above: with the factor a-1 the quotient is M / a^a.
		if order > 2 {
			fits, long := near(self(k), 0, order)
			lone(t, theProduct, order, fits, long, "0", rat.Int(k))
		}
		// Below: with the factor (a+1)/a and an M of (a+1)^(a-1) * (n+step) / (a^(a-1) * n) the quotient has only a^a * n.
		step := k * order * (order + 1)
		m := func(n api.Num) api.Num {
			return over(times(power(rat.Int(order+1), k), plus(n, rat.Int(step))), times(power(rat.Int(order), k), n))
		}
		fits, long := near(power(rat.Int(order), order+k), 0, step)
		lone(t, theProduct, order, m(fits), m(long), "0", part(order+1, order).text())
	}
}

func TestProductsInOneStep(t *testing.T) { // P10.4
	// Products with (a-1)^(a-1) alone, and quotients by a^a alone, are no numbers on the way: here they are too long.
	for order := 3; order <= 8; order++ {
		up, down := self(order-1), self(order)
		many := times(down, must(rat.Floor(over(nines(4000), down))))
		d := times(times(rat.Int(order), up), must(rat.Floor(over(nines(4000), times(rat.Int(2*order), down)))))
		near := over(plus(d, "1"), d)
		if digits(wide(many).Times(wide(up))) <= 4000 || digits(wide(near).Times(wide(down).Inverse())) <= 4000 {
			t.Error("not too long:", order)
		}
		for _, m := range []api.Num{many, near} {
			accept(t, with(ones("0"), order, m), order, "1")
		}
	}
}

func TestDigitsOfQuotients(t *testing.T) { // P10.4
	for order := 2; order <= 8; order++ {
		k := order - 1
		// Above: with the factor 13/11 it is n*11^(a-1)*(a-1)^(a-1) by others.
		fits, long := near(power(rat.Int(11*k), k), 0, 13*order)
		lone(t, theQuotient, order, fits, long, "0", "13/11")
		// Below: with the factor 11 and an M of (11*a*n + 1) / (11*a*n).
		m := func(n api.Num) api.Num {
			x := times(rat.Int(11*order), n)
			return over(plus(x, "1"), x)
		}
		fits, long = near(times(rat.Int(11*order), times(self(order), power("11", k))), 0, k)
		lone(t, theQuotient, order, m(fits), m(long), "0", "11")
	}
}

func TestDigitsOfQuotientsAlone(t *testing.T) { // P10.4
	for order := 2; order <= 8; order++ {
		k := order - 1
		// The quotient is (a-1)^(a-1) * n / (11*x) for an x = b*n + 1, and the sum with some u/11 is a fraction with the denominator x.
		b := order * k * (raised(11, k-1) * raised(order, order) / (2 * order * k))
		curve := func(n api.Num, u int) api.Curve {
			x := plus(times(rat.Int(b), n), "1")
			m := over(times(times(power("11", k-1), self(order)), n), x)
			return with(ones(part(u, 11*12).text()), order, m)
		}
		matching := func(n api.Num) api.Curve {
			for u := 1; u < 11; u++ {
				if c := curve(n, u); digits(way(c, order, "11")[theSum]) <= 4000 {
					return c
				}
			}
			t.Fatal("no sum is shorter, with the order", order)
			return api.Curve{}
		}
		fits, long := near(times("11", rat.Int(b)), 11, 11)
		border(t, theQuotient, order, matching(fits), "11", matching(long), "11")
	}
}

func TestDigitsOfNextNumbers(t *testing.T) { // P10.4
	// Only with the order 2 a factor may have 4,000 digits. The number counts although it is multiplied by 0.
	fits, long := minus(nines(4000), "1"), nines(4000)
	border(t, theNext, 2, with(ones("0"), 2, fits), fits, with(ones("0"), 2, long), long)
	expect(t, of(fits, "1/4"))(moment.To(with(ones("0"), 2, fits), 2, fits))
}

func TestDigitsOfLateProducts(t *testing.T) { // P10.4
	for order := 2; order <= 8; order++ {
		// Below: 1/2 + 5/(2*n) has the denominator n.
		c := func(n api.Num) api.Curve { return with(ones("1/"+n), order, leading("1/2", order, "3/2")) }
		fits, long := near("2", 0, 10)
		border(t, theLate, order, c(fits), "3/2", c(long), "3/2")
		// Above: 1/2 + 3*n/(2*(n-2)) has the numerator (3*n + n-2) / 2.
		c = func(n api.Num) api.Curve {
			return with(ones(over(n, times("2", minus(n, "2")))), order, leading("1/2", order, "2"))
		}
		fits, long = near("3", 0, 6)
		border(t, theLate, order, c(fits), "2", c(long), "2")
	}
}

func TestDigitsOfLateSums(t *testing.T) { // P10.4
	for order := 2; order <= 8; order++ {
		// Denominators without a common divisor;
		m := leading(plus("1/2", "1/"+ten(2000)), order, "1")
		apart := func(n int) api.Curve { return with(ones("1/"+nines(n)), order, m) }
		border(t, theSum, order, apart(2000), "1", apart(2001), "1")
		// numerators of sums that would be limited to 1: n/a^a + 1,
		c := func(n api.Num) api.Curve { return with(ones("1/2"), order, leading(over(n, self(order)), order, "1")) }
		fits, long := near("1", raised(order, order), order*(order-1))
		border(t, theSum, order, c(fits), "1", c(long), "1")
		// and 1/2 + 3*n/(3*n-2), where the second number is not limited to 1 before.
		c = func(n api.Num) api.Curve {
			return with(ones(over(n, minus(times("3", n), "2"))), order, leading("1/2", order, "2"))
		}
		fits, long = near("9", 0, 2)
		border(t, theSum, order, c(fits), "2", c(long), "2")
	}
}

func TestDigitsOfAdd(t *testing.T) { // P10.4
	near := func(n int) api.Num { return plus("1", "1/"+ten(n)) }
	for order := 2; order <= 8; order++ {
		curve := func(m, late api.Num) api.Curve { return with(ones(late), order, m) }
		for _, late := range []api.Num{"0", "1/3", "1"} {
			// Products, above and below,
			expect(t, curve(ten(3999), late))(moment.Add(curve(ten(2000), late), curve(ten(1999), "0")))
			refuse[api.Curve](t, api.ErrOver)(moment.Add(curve(ten(2000), late), curve(ten(2000), "0")))
			refuse[api.Curve](t, api.ErrOver)(moment.Add(curve(ten(2000), late), curve(ten(2000), late)))
			expect(t, curve(nines(4000), late))(moment.Add(curve(nines(4000), "0"), curve("1", late)))
			refuse[api.Curve](t, api.ErrOver)(moment.Add(curve("2", "0"), curve(nines(4000), late)))
			expect(t, curve(times(near(2000), near(1999)), late))(moment.Add(curve(near(2000), "0"), curve(near(1999), late)))
			refuse[api.Curve](t, api.ErrOver)(moment.Add(curve(near(2000), "0"), curve(near(2000), late)))
		}
	}
	// sums,
	one, fits, long := "1/"+ten(2000), "1/"+nines(2000), "1/"+nines(2001)
	expect(t, ones(plus(one, fits)))(moment.Add(ones(one), ones(fits)))
	refuse[api.Curve](t, api.ErrOver)(moment.Add(ones(one), ones(long)))
	refuse[api.Curve](t, api.ErrOver)(moment.Add(ones(long), ones(one)))
	// and sums that would be limited to 1.
	expect(t, ones("1"))(moment.Add(ones("1"), ones("1/"+nines(3999))))
	refuse[api.Curve](t, api.ErrOver)(moment.Add(ones("1"), ones("1/"+nines(4000))))
	refuse[api.Curve](t, api.ErrOver)(moment.Add(ones(justBelowOne()), ones("1")))
	expect(t, ones("1"))(moment.Add(ones(minus("1", fits)), ones(plus(fits, one))))
	refuse[api.Curve](t, api.ErrOver)(moment.Add(ones(minus("1", long)), ones(one)))
	// Numbers of 4,000 digits that become no longer.
	edge := flat(nines(4000))
	edge.Late = justBelowOne()
	expect(t, edge)(moment.Add(edge, moment.None()))
	expect(t, edge)(moment.Add(moment.None(), edge))
}

// topOfSum returns p^15 + q^15: the longest part of all numbers on the way of Of(p/q), that of the sum of the order 8.
func topOfSum(p, q api.Num) exact.Natural {
	sum := whole(0)
	for _, x := range []api.Num{p, q} {
		product := whole(1)
		for range 15 {
			product = product.Times(wide(x))
		}
		sum = sum.Plus(product)
	}
	return sum.Top
}

// greatest returns the greatest number of at most 267 digits that fits, where all smaller ones do.
func greatest(fits func(p api.Num) bool) api.Num {
	p := api.Num("0")
	for n := 266; n >= 0; n-- {
		for more := plus(p, ten(n)); fits(more); more = plus(p, ten(n)) {
			p = more
		}
	}
	return p
}

func TestDigitsOfOf(t *testing.T) { // P10.4
	check := func(p, q api.Num, want int) {
		t.Helper()
		top := topOfSum(p, q)
		if top.Digits() != want {
			t.Error(top.Digits(), "digits instead of", want)
		}
		for _, late := range []api.Num{"0", "1/7", "1"} {
			if want > 4000 {
				refuse[api.Curve](t, api.ErrOver)(moment.Of(over(p, q), late))
				continue
			}
			c := must(moment.Of(over(p, q), late))
			sum := wide(c.M[6]).Times(wide(over(plus(p, q), q)))
			if sum.Top.Compare(top) != 0 || c.Late != late {
				t.Error(p, q, c)
			}
		}
	}
	// The quotients would have 14 times as many digits as p, which is less than 4,000.
	p := greatest(func(p api.Num) bool { return topOfSum(p, "1").Digits() <= 4000 })
	check(p, "1", 4000)
	check(plus(p, "1"), "1", 4001)
	p = greatest(func(p api.Num) bool { return topOfSum(plus(p, "1"), p).Digits() <= 4000 })
	check(plus(p, "1"), p, 4000)
	check(plus(p, "2"), plus(p, "1"), 4001)
	check(times("4", ten(266)), "3", 4000)
	check(times("5", ten(266)), "3", 4001)
	// Much longer factors, of which powers are too long, and R+1 of some.
	for _, factor := range []api.Num{ten(300), nines(499) + "/2", ten(500), ten(1000), ten(2000), nines(4000), justAboveOne(), nines(4000) + "/2"} {
		refuse[api.Curve](t, api.ErrOver)(moment.Of(factor, "0"))
		refuse[api.Curve](t, api.ErrOver)(moment.Of(factor, "1"))
	}
}
