package loss_test

import (
	"testing"

	"privhouse/api"
	"privhouse/dist"
	"privhouse/loss"
	"privhouse/rat"
)

// fives returns 5 * 10^3999, plus a small number.
func fives(n int) api.Num { return plus(times("5", ten(3999)), ratio{n, 1}.text()) }

func TestDigitsOfAdd(t *testing.T) { // P9.6
	// Products,
	expect(t, of(ten(3999), "0"))(loss.Add(of(ten(2000), "0"), of(ten(1999), "0")))
	refuse[api.Loss](t, api.ErrOver)(loss.Add(of(ten(2000), "0"), of(ten(2000), "0")))
	expect(t, of(nines(4000), "0"))(loss.Add(of(nines(4000), "0"), loss.None()))
	refuse[api.Loss](t, api.ErrOver)(loss.Add(of(nines(4000), "0"), of("2", "0")))
	near := func(n int) api.Num { return plus("1", "1/"+ten(n)) }
	expect(t, of(times(near(2000), near(1999)), "0"))(loss.Add(of(near(2000), "0"), of(near(1999), "0")))
	refuse[api.Loss](t, api.ErrOver)(loss.Add(of(near(2000), "0"), of(near(2000), "0")))
	// also where the deltas add up to 1,
	refuse[api.Loss](t, api.ErrOver)(loss.Add(of(ten(2000), "1"), of(ten(2000), "1")))
	// sums,
	one, fits, long := "1/"+ten(2000), "1/"+nines(2000), "1/"+nines(2001)
	expect(t, of("2", plus(one, fits)))(loss.Add(of("1", one), of("2", fits)))
	refuse[api.Loss](t, api.ErrOver)(loss.Add(of("1", one), of("2", long)))
	// and sums that would be limited to 1.
	expect(t, of("2", "1"))(loss.Add(of("1", minus("1", fits)), of("2", "1/"+ten(1999))))
	expect(t, of("2", "1"))(loss.Add(of("1", minus("1", one)), of("2", fits)))
	refuse[api.Loss](t, api.ErrOver)(loss.Add(of("2", one), of("1", minus("1", long))))
	expect(t, of("1", "1"))(loss.Add(of("1", "1"), of("1", nines(3999)+"/"+ten(3999))))
	expect(t, of("1", "1"))(loss.Add(of("1", "1"), of("1", fives(-2)+"/"+fives(-1))))
	refuse[api.Loss](t, api.ErrOver)(loss.Add(of("1", "1"), of("1", fives(0)+"/"+fives(1))))
	refuse[api.Loss](t, api.ErrOver)(loss.Add(of("1", justBelowOne()), of("1", "1")))
}

func TestDigitsOfSum(t *testing.T) { // P9.6
	for _, d := range []api.Num{"0", "1", "1/" + nines(4000), justBelowOne()} {
		expect(t, of(nines(4000), d))(loss.Sum([]api.Loss{of(nines(4000), d)}))
	}
	// Only the sums from the left count,
	delta := func(l ...api.Num) []api.Loss {
		var losses []api.Loss
		for _, x := range l {
			losses = append(losses, of("2", x))
		}
		return losses
	}
	one, other := "1/"+ten(2000), "1/"+nines(2001)
	expect(t, of("16", "3/4"))(loss.Sum(delta(one, minus("1/2", one), other, minus("1/4", other))))
	refuse[api.Loss](t, api.ErrOver)(loss.Sum(delta(one, other, minus("1/2", one), minus("1/4", other))))
	refuse[api.Loss](t, api.ErrOver)(loss.Sum(delta(minus("1/4", other), minus("1/2", one), one, other)))
	// each of which is limited to 1.
	expect(t, of("16", "1"))(loss.Sum(delta("2/3", "2/3", one, fives(-2)+"/"+fives(-1))))
	refuse[api.Loss](t, api.ErrOver)(loss.Sum(delta("2/3", "2/3", one, fives(0)+"/"+fives(1))))
	expect(t, of("8", "1"))(loss.Sum(delta(minus("1", one), "1", "1/"+nines(2001))))
	// The same goes for products: a*b is 2*10^2000, a multiple of the denominator of c, but a*c is too long.
	a := plus(ten(2000), "1")
	b := over(times("2", ten(2000)), a)
	c := over(plus(ten(2001), "3"), ten(2000))
	expect(t, of(times(times(a, b), c), "0"))(loss.Sum([]api.Loss{of(a, "0"), of(b, "0"), of(c, "0")}))
	refuse[api.Loss](t, api.ErrOver)(loss.Sum([]api.Loss{of(a, "0"), of(c, "0"), of(b, "0")}))
}

func TestDigitsOfGroup(t *testing.T) { // P9.6
	// Powers (a partial sum never has more digits than the power that follows it, so that no group is refused for its sake alone),
	for k, digits := range map[int]int{2: 2000, 4: 1000, 5: 800, 8: 500, 10: 400, 20: 200, 50: 80} {
		for _, factor := range []api.Num{nines(digits), plus("1", "1/"+ten(digits-1))} {
			sum := over(minus(power(factor, k), "1"), minus(factor, "1"))
			for _, delta := range []api.Num{"0", "1/100", "1"} {
				expect(t, of(power(factor, k), atMostOne(times(delta, sum))))(loss.Group(of(factor, delta), k))
			}
		}
		for _, factor := range []api.Num{ten(digits), plus("1", "1/"+ten(digits))} {
			for _, delta := range []api.Num{"0", "1/100", "1"} {
				refuse[api.Loss](t, api.ErrOver)(loss.Group(of(factor, delta), k))
			}
		}
	}
	expect(t, loss.None())(loss.Group(of(nines(4000), justBelowOne()), 0))
	expect(t, of(nines(4000), justBelowOne()))(loss.Group(of(nines(4000), justBelowOne()), 1))
	// and products with the delta: 1+R is 5/2,
	expect(t, of("9/4", "5/"+minus(nines(4000), "1")))(loss.Group(of("3/2", "1/"+fives(-1)), 2))
	refuse[api.Loss](t, api.ErrOver)(loss.Group(of("3/2", "1/"+fives(1)), 2))
	expect(t, of("3/2", "1/"+fives(1)))(loss.Group(of("3/2", "1/"+fives(1)), 1))
	// or 3, also where the product would be limited to 1.
	expect(t, of("4", "1"))(loss.Group(of("2", threes(4000)+"/"+plus(threes(4000), "1")), 2))
	refuse[api.Loss](t, api.ErrOver)(loss.Group(of("2", plus(threes(4000), "1")+"/"+plus(threes(4000), "2")), 2))
	refuse[api.Loss](t, api.ErrOver)(loss.Group(of("2", justBelowOne()), 50))
	// The delta is not multiplied by any sum but the last one: here 7*D fits, and 3*D does not.
	delta := over(times("4", ten(3999)), times("7", plus(ten(3999), "1")))
	expect(t, of("8", "1"))(loss.Group(of("2", delta), 3))
	refuse[api.Loss](t, api.ErrOver)(loss.Group(of("2", delta), 2))
}

// atMostOne returns a number, but at most 1.
func atMostOne(a api.Num) api.Num { return must(rat.Min(a, "1")) }

func TestDigitsOfLate(t *testing.T) { // P9.6
	// R+1,
	for _, u := range []api.Num{"0", "1", "1/2"} {
		refuse[api.Loss](t, api.ErrOver)(loss.Late(of(nines(4000), "0"), u))
		refuse[api.Loss](t, api.ErrOver)(loss.Late(of(nines(4000)+"/2", "1"), u))
	}
	big := minus(nines(4000), "1")
	expect(t, of(big, "1/7"))(loss.Late(of(big, "1/7"), "0"))
	expect(t, of(big, "1"))(loss.Late(of(big, "0"), "1"))
	expect(t, of(big, "1"))(loss.Late(of(big, "0"), "1/"+nines(4000)))
	// its product with u (R+1 is 5/2, or 3),
	expect(t, of("3/2", "5/"+minus(nines(4000), "1")))(loss.Late(of("3/2", "0"), "1/"+fives(-1)))
	refuse[api.Loss](t, api.ErrOver)(loss.Late(of("3/2", "0"), "1/"+fives(1)))
	expect(t, of("2", "1"))(loss.Late(of("2", "0"), threes(4000)+"/"+plus(threes(4000), "1")))
	refuse[api.Loss](t, api.ErrOver)(loss.Late(of("2", "0"), plus(threes(4000), "1")+"/"+plus(threes(4000), "2")))
	// and the sum,
	one := "1/" + ten(2000)
	expect(t, of("1", plus(one, "2/"+nines(2000))))(loss.Late(of("1", one), "1/"+nines(2000)))
	refuse[api.Loss](t, api.ErrOver)(loss.Late(of("1", one), "1/"+nines(2001)))
	// also where it would be limited to 1.
	expect(t, of("1", "1"))(loss.Late(of("1", "1"), "1/"+nines(3999)))
	refuse[api.Loss](t, api.ErrOver)(loss.Late(of("1", "1"), "1/"+nines(4000)))
	refuse[api.Loss](t, api.ErrOver)(loss.Late(of("1", minus("1", "1/"+nines(2001))), one))
	// What is added to the delta is not limited before.
	delta := minus(threes(4000), "1") + "/" + threes(4000)
	expect(t, of("1", "1"))(loss.Late(of("1", delta), "1/2"))
	refuse[api.Loss](t, api.ErrOver)(loss.Late(of("2", delta), "1"))
}

func TestDigitsOfHolds(t *testing.T) { // P9.4, P9.6
	certain := dist.Point("a")
	split := func(n int) api.Dist {
		return api.Dist{{Key: "a", P: "1/" + ten(n)}, {Key: "b", P: nines(n) + "/" + ten(n)}}
	}
	factor := plus("1", "1/"+ten(2000))
	for _, delta := range []api.Num{"0", "1"} {
		expect(t, delta == "1")(loss.Holds(of(factor, delta), certain, split(1999)))
		expect(t, delta == "1")(loss.Holds(of(factor, delta), split(1999), certain))
		// The product of the factor with the probability of a in the second distribution is too long, in one of the two directions.
		refuse[bool](t, api.ErrOver)(loss.Holds(of(factor, delta), certain, split(2000)))
		refuse[bool](t, api.ErrOver)(loss.Holds(of(factor, delta), split(2000), certain))
	}
}

func TestDigitsOfAlpha(t *testing.T) { // P9.6
	for _, factor := range []api.Num{nines(4000), ten(3999), justAboveOne(), nines(4000) + "/2"} {
		expect(t, over("1", factor))(loss.Alpha(1, factor))
	}
	// The product alone is too long: for R = p/3 and S = 2 it is 2*p/3, the sum is p, and the quotient p / ((3*p-3)/2).
	p := fives(-1)
	expect(t, over(p, times("3", over(minus(p, "1"), "2"))))(loss.Alpha(2, p+"/3"))
	refuse[api.Num](t, api.ErrOver)(loss.Alpha(2, fives(3)+"/3"))
	// The sum alone: for S = 4 it is 5*R.
	p = minus(times("2", ten(3999)), "1")
	expect(t, over(times("4", p), minus(times("5", p), "1")))(loss.Alpha(4, p))
	refuse[api.Num](t, api.ErrOver)(loss.Alpha(4, plus(p, "1")))
	// The quotient alone, above or below: for R = p/6 and S = 2 the product is p/3, the sum p/2, and the quotient 2*p / (3*p-6).
	p = minus(threes(4000), "2")
	expect(t, times("2", p)+"/"+minus(times("3", p), "6"))(loss.Alpha(2, p+"/6"))
	refuse[api.Num](t, api.ErrOver)(loss.Alpha(2, plus(threes(4000), "4")+"/6"))
	refuse[api.Num](t, api.ErrOver)(loss.Alpha(2, minus(nines(4000), "2")+"/6"))
	refuse[api.Num](t, api.ErrOver)(loss.Alpha(2, justAboveOne()))
	expect(t, over(times("1000000", ten(3993)), minus(times("1000001", ten(3993)), "1")))(loss.Alpha(1000000, ten(3993)))
	refuse[api.Num](t, api.ErrOver)(loss.Alpha(1000000, ten(3994)))
}

func TestDigitsOfBeta(t *testing.T) { // P9.6
	// The product alone is too long: for an odd R and S = 1 it is 2*R, and the quotient ((R-1)/2) / R.
	p := fives(-1)
	expect(t, plus("1", over(over(minus(p, "1"), "2"), p)))(loss.Beta(1, p))
	refuse[api.Num](t, api.ErrOver)(loss.Beta(1, fives(1)))
	// The sum alone: for R = p/2 the product is p, the quotient (p-2) / (2*p), and the sum (3*p-2) / (2*p).
	p = threes(4000)
	expect(t, minus(times("3", p), "2")+"/"+times("2", p))(loss.Beta(1, p+"/2"))
	refuse[api.Num](t, api.ErrOver)(loss.Beta(1, plus(p, "2")+"/2"))
	// The quotient, and the sum with it.
	refuse[api.Num](t, api.ErrOver)(loss.Beta(1, fives(1)+"/2"))
	refuse[api.Num](t, api.ErrOver)(loss.Beta(1, justAboveOne()))
	expect(t, plus("1", over(minus(ten(3993), "1"), times("2000000", ten(3993)))))(loss.Beta(1000000, ten(3993)))
	refuse[api.Num](t, api.ErrOver)(loss.Beta(1000000, ten(3994)))
}

func TestDigitsOfHalf(t *testing.T) { // P9.6
	// The product alone is too long: for an odd R the quotient is R / ((R+1)/2).
	p := fives(-1)
	expect(t, over(p, over(plus(p, "1"), "2")))(loss.Half(p))
	refuse[api.Num](t, api.ErrOver)(loss.Half(fives(1)))
	// The quotient alone: for R = p/2 the product is p, the sum (p+2)/2, and the quotient 2*p / (p+2).
	expect(t, times("2", p)+"/"+plus(p, "2"))(loss.Half(p + "/2"))
	refuse[api.Num](t, api.ErrOver)(loss.Half(fives(1) + "/2"))
	// The sum, and the quotient with it.
	refuse[api.Num](t, api.ErrOver)(loss.Half(nines(4000) + "/2"))
	refuse[api.Num](t, api.ErrOver)(loss.Half(justAboveOne()))
}
