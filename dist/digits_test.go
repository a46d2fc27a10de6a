package dist_test

import (
	"testing"

	"privhouse/api"
	"privhouse/dist"
	"privhouse/rat"
)

// crossing returns some of four masses, with the keys 0, 1 and so on. They are 1/10^a, the rest of it to 1/2, 1/(10^b-1), and the rest of it to 1/2. The sum of the first and the third one is a fraction in lowest terms whose denominator has a+b digits.
func crossing(a, b int, places ...int) api.Dist {
	one, other := "1/"+ten(a), "1/"+nines(b)
	masses := []api.Num{one, minus("1/2", one), other, minus("1/2", other)}
	var d api.Dist
	for i, place := range places {
		d = append(d, api.Mass{Key: string(rune('0' + i)), P: masses[place]})
	}
	return d
}

func TestDigitsOfPartialSums(t *testing.T) { // P8.1, P8.2
	for _, a := range []int{2, 2000, 3990} {
		fits, long := 4000-a, 4001-a
		status(t, api.OK, crossing(a, fits, 0, 2, 1, 3))
		status(t, api.OK, crossing(a, fits, 1, 3, 0, 2))
		status(t, api.OK, crossing(a, long, 0, 1, 2, 3))
		status(t, api.OK, crossing(a, long, 1, 0, 3, 2))
		status(t, api.ErrOver, crossing(a, long, 0, 2, 1, 3))
		// The last two of four would be too long, too, but only the first ones are added up.
		status(t, api.ErrOver, crossing(a, long, 0, 1, 1, 2, 0, 3))
		// Too many digits go before the sum, which is not 1 here, and after the elements.
		status(t, api.ErrSum, crossing(a, fits, 0, 2))
		status(t, api.ErrOver, crossing(a, long, 0, 2))
		status(t, api.ErrRange, append(crossing(a, long, 0, 2), api.Mass{Key: "2", P: "0"}))
		status(t, api.ErrForm, append(crossing(a, long, 0, 2), api.Mass{Key: "2", P: "2/2"}))
		status(t, api.ErrOrder, append(crossing(a, long, 0, 2), api.Mass{Key: "1", P: "1/2"}))
		for _, d := range []api.Dist{crossing(a, fits, 0, 2, 1, 3), crossing(a, long, 0, 1, 2, 3), crossing(a, long, 1, 0, 3, 2)} {
			expect(t, d)(dist.Make(d))
			// The order of the list does not matter here.
			expect(t, d)(dist.Make(api.Dist{d[2], d[0], d[3], d[1]}))
		}
		refuse[api.Dist](t, api.ErrOver)(dist.Make(crossing(a, long, 0, 2, 1, 3)))
		refuse[api.Dist](t, api.ErrOver)(dist.Make(crossing(a, long, 0, 2)))
		refuse[api.Dist](t, api.ErrSum)(dist.Make(crossing(a, fits, 0, 2)))
		refuse[api.Dist](t, api.ErrRange)(dist.Make(append(crossing(a, long, 0, 2), api.Mass{Key: "2", P: "-1"})))
	}
}

// alike returns a list with one key for all masses.
func alike(d api.Dist) api.Dist {
	for i := range d {
		d[i].Key = "k"
	}
	return d
}

func TestDigitsOfCollectedSums(t *testing.T) { // P8.2
	certain := dist.Point("k")
	expect(t, certain)(dist.Make(alike(crossing(2000, 2000, 0, 2, 1, 3))))
	expect(t, certain)(dist.Make(alike(crossing(2000, 2001, 0, 1, 2, 3))))
	expect(t, certain)(dist.Make(alike(crossing(2000, 2001, 2, 3, 1, 0))))
	refuse[api.Dist](t, api.ErrOver)(dist.Make(alike(crossing(2000, 2001, 0, 2, 1, 3))))
	refuse[api.Dist](t, api.ErrOver)(dist.Make(alike(crossing(2000, 2001, 3, 1, 0, 2))))
	// A sum that is too long while it is collected goes before a sum that is not 1, and after all elements.
	refuse[api.Dist](t, api.ErrOver)(dist.Make(alike(crossing(2000, 2001, 0, 2))))
	refuse[api.Dist](t, api.ErrSum)(dist.Make(alike(crossing(2000, 2000, 0, 2))))
	refuse[api.Dist](t, api.ErrRange)(dist.Make(append(alike(crossing(2000, 2001, 0, 2)), api.Mass{Key: "a", P: "-1"})))
	refuse[api.Dist](t, api.ErrForm)(dist.Make(append(alike(crossing(2000, 2001, 0, 2)), api.Mass{Key: "a", P: "x"})))
	// Masses of other keys between them do not matter.
	l := crossing(2000, 2001, 0, 2, 1, 3)
	l[0].Key, l[1].Key, l[2].Key, l[3].Key = "b", "a", "b", "a"
	expect(t, list("a", "1/2", "b", "1/2"))(dist.Make(l))
}

func TestDigitsOfProducts(t *testing.T) { // P8.3
	two := func(n int) api.Dist { return list("a", "1/"+string(ten(n)), "b", string(nines(n)+"/"+ten(n))) }
	d := must(dist.Product(two(2000), two(1999)))
	expect(t, "1/"+ten(3999))(dist.At(d, "a|a"), api.OK)
	refuse[api.Dist](t, api.ErrOver)(dist.Product(two(2000), two(2000)))
	refuse[api.Dist](t, api.ErrOver)(dist.Product(two(1), two(3999)))
	must(dist.Product(two(3999), dist.Point("x")))
	// Only the last pair, or only the first one, is too long.
	first, last := api.Num("1/"+ten(2000)), api.Num("1/"+ten(2000))
	one, other := list("a", string(first), "b", "1/2", "c", string(minus("1/2", first))), list("a", string(last), "b", string(minus("1/2", last)), "c", "1/2")
	refuse[api.Dist](t, api.ErrOver)(dist.Product(one, other))
	refuse[api.Dist](t, api.ErrOver)(dist.Product(other, one))
	// Joined keys may have another order, in which the sums are too long.
	long := crossing(2000, 2001, 0, 1, 2, 3)
	expect(t, list("0|", string(long[0].P), "1|", string(long[1].P), "2|", string(long[2].P), "3|", string(long[3].P)))(dist.Product(long, dist.Point("")))
	long[1].Key, long[2].Key = "1", "1!"
	status(t, api.OK, long)
	refuse[api.Dist](t, api.ErrOver)(dist.Product(long, dist.Point("")))
}

func TestOrderOfPairs(t *testing.T) { // P8.3
	x, y := "1/"+ten(2000), "1/"+nines(2001)
	less, more := string(minus("1/8", x)), string(plus("1/8", x))
	a := list("", less, "|a", more, "|||", less, "||||", more, "|||||", string(plus("1/4", y)), "||||||", string(minus("1/4", y)))
	b := list("!|", "1/4", "|", "1/4", "||", "1/4", "||||||", "1/4")
	// Three of the pairs are joined to seven bars: in this order 1/8-x, 1/8+x and 1/4+y, each of them times 1/4. In the order of b the sum of the first two would be too long.
	d := must(dist.Product(a, b))
	expect(t, times("1/4", plus("1/2", y)))(dist.At(d, "|||||||"), api.OK)
	expect(t, api.Num("1/16"))(dist.At(d, "||||||"), api.OK)
}

func TestDigitsOfMixtures(t *testing.T) { // P8.3
	a := list("a", "1/"+string(ten(2000)), "b", string(nines(2000)+"/"+ten(2000)))
	for _, p := range []api.Num{"1/" + ten(1999), nines(1999) + "/" + ten(1999)} {
		d := must(dist.Mix(p, a, dist.Point("c")))
		expect(t, times(p, a[0].P))(dist.At(d, "a"), api.OK)
		expect(t, minus("1", p))(dist.At(d, "c"), api.OK)
		d = must(dist.Mix(p, dist.Point("c"), a))
		expect(t, times(minus("1", p), a[0].P))(dist.At(d, "a"), api.OK)
	}
	for _, p := range []api.Num{"1/" + ten(2000), nines(2000) + "/" + ten(2000)} {
		refuse[api.Dist](t, api.ErrOver)(dist.Mix(p, a, dist.Point("c")))
		refuse[api.Dist](t, api.ErrOver)(dist.Mix(p, dist.Point("c"), a))
	}
	// That p is greater than 1 is found before its products are.
	refuse[api.Dist](t, api.ErrRange)(dist.Mix("1"+repeated("0", 1999)+"1/"+ten(2000), a, a))
	expect(t, list("a", "1/"+string(ten(3999)), "b", string(nines(3999)+"/"+ten(3999))))(dist.Mix("1/"+ten(3999), dist.Point("a"), dist.Point("b")))
	expect(t, list("a", string(nines(3999)+"/"+ten(3999)), "b", "1/"+string(ten(3999))))(dist.Mix(nines(3999)+"/"+ten(3999), dist.Point("a"), dist.Point("b")))
	// The products are shorter than their sum, whether the keys are the same or follow one another.
	half := func(key string, p api.Num) api.Dist { return list(key, string(p), "z", string(minus("1", p))) }
	x, y := half("a", "1/"+ten(2000)), half("a", "1/"+nines(2001))
	refuse[api.Dist](t, api.ErrOver)(dist.Mix("1/2", x, y))
	refuse[api.Dist](t, api.ErrOver)(dist.Mix("1/2", x, half("b", "1/"+nines(2001))))
	must(dist.Mix("1/2", x, half("a", "1/"+nines(1990))))
	must(dist.Mix("1/2", x, half("b", "1/"+nines(1990))))
}

func TestDigitsOfPushes(t *testing.T) { // P8.3
	d := crossing(2000, 2001, 0, 1, 2, 3)
	expect(t, dist.Point("k"))(dist.Push(d, []string{"0", "1", "2", "3"}, []string{"k", "k", "k", "k"}))
	expect(t, list("0", "1/2", "2", "1/2"))(dist.Push(d, []string{"1", "3"}, []string{"0", "2"}))
	refuse[api.Dist](t, api.ErrOver)(dist.Push(d, []string{"2"}, []string{"0"}))
	refuse[api.Dist](t, api.ErrOver)(dist.Push(d, []string{"1"}, []string{"4"}))
	must(dist.Push(crossing(2000, 2000, 0, 1, 2, 3), []string{"2"}, []string{"0"}))
	must(dist.Push(crossing(2000, 2000, 0, 1, 2, 3), []string{"1"}, []string{"4"}))
}

func TestDigitsOfDeltas(t *testing.T) { // P8.4, P8.5
	certain := dist.Point("a")
	tenth := func(n int) api.Dist { return list("a", "1/"+string(ten(n)), "b", string(nines(n)+"/"+ten(n))) }
	// Products,
	expect(t, nines(3999)+"/"+ten(3999))(dist.Delta(certain, tenth(1999), "1/"+ten(2000)))
	refuse[api.Num](t, api.ErrOver)(dist.Delta(certain, tenth(2000), "1/"+ten(2000)))
	expect(t, api.Num("0"))(dist.Delta(certain, certain, nines(4000)))
	// but only those of outcomes of p,
	expect(t, api.Num("1"))(dist.Delta(dist.Point("c"), tenth(2000), "1/"+ten(2000)))
	expect(t, api.Num("1"))(dist.Delta(tenth(3999), tenth(3999), "0"))
	// differences, even if they are negative,
	for _, x := range []struct {
		a, b int
		e    api.Errno
	}{{2000, 2000, api.OK}, {2000, 2001, api.ErrOver}, {1500, 2500, api.OK}, {1500, 2501, api.ErrOver}, {2500, 1500, api.OK}, {2501, 1500, api.ErrOver}} {
		ninth := list("a", "1/"+string(nines(x.b)), "c", string(minus("1", "1/"+nines(x.b))))
		if x.e != api.OK {
			refuse[api.Num](t, x.e)(dist.Distance(tenth(x.a), ninth))
			refuse[api.Num](t, x.e)(dist.Distance(ninth, tenth(x.a)))
			continue
		}
		more := minus(ninth[0].P, tenth(x.a)[0].P)
		expect(t, plus(tenth(x.a)[1].P, must(rat.Max("0", minus("0", more)))))(dist.Distance(tenth(x.a), ninth))
		expect(t, plus(ninth[1].P, must(rat.Max("0", more))))(dist.Distance(ninth, tenth(x.a)))
	}
	// and partial sums.
	halves := list("1", "1/2", "3", "1/2")
	expect(t, plus("1/"+ten(2000), "1/"+nines(2000)))(dist.Distance(crossing(2000, 2000, 0, 1, 2, 3), halves))
	refuse[api.Num](t, api.ErrOver)(dist.Distance(crossing(2000, 2001, 0, 1, 2, 3), halves))
	// The order counts: without the rest of the second pair, the sums are short in one order, and too long in the other one.
	for _, x := range []struct {
		places []int
		rest   int
		e      api.Errno
	}{{[]int{1, 0, 2, 3}, 3, api.OK}, {[]int{3, 2, 0, 1}, 0, api.ErrOver}} {
		p := crossing(2000, 2001, x.places...)
		rest := p[x.rest]
		q := list(rest.Key, string(rest.P), "z", string(minus("1", rest.P)))
		if x.e == api.OK {
			expect(t, minus("1", rest.P))(dist.Distance(p, q))
		} else {
			refuse[api.Num](t, x.e)(dist.Distance(p, q))
		}
	}
}

// near returns a distribution whose probability of a is (10^b-2)/(10^b-1).
func near(b int) api.Dist {
	p := minus("1", "1/"+nines(b))
	return list("a", string(p), "b", "1/"+string(nines(b)))
}

func TestDigitsOfFactors(t *testing.T) { // P8.5
	tenth := func(n int) api.Dist { return list("a", "1/"+string(ten(n)), "b", string(nines(n)+"/"+ten(n))) }
	for _, a := range []int{10, 2000, 3990} {
		// The quotients of b have a numerator of a+b digits, those of a a denominator of as many.
		p, q := tenth(a), near(4000-a)
		expect(t, answer{times(p[1].P, nines(4000-a)), true})(answered(dist.Factor(p, q)))
		refuse[answer](t, api.ErrOver)(answered(dist.Factor(p, near(4001-a))))
		// An outcome that is missing is found before.
		long := near(4001 - a)
		long[1].Key = "c"
		expect(t, answer{})(answered(dist.Factor(p, long)))
		for _, order := range []int{1, 2, 8} {
			expect(t, answer{})(answered(dist.Moment(p, long, order)))
		}
	}
	expect(t, answer{"1", true})(answered(dist.Factor(near(3999), near(3999))))
	expect(t, answer{ten(3999), true})(answered(dist.Factor(dist.Point("a"), tenth(3999))))
}

func TestDigitsOfMoments(t *testing.T) { // P8.5
	one := answer{"1", true}
	// With q = p, a power of p is the longest number on the way.
	for order, digits := range map[int]int{1: 4000, 2: 2000, 4: 1000, 5: 800, 8: 500} {
		p := near(digits)
		expect(t, one)(answered(dist.Moment(p, p, order)))
		if order > 1 {
			p = near(digits + 1)
			refuse[answer](t, api.ErrOver)(answered(dist.Moment(p, p, order)))
		}
	}
	tenth := func(n int) api.Dist { return list("a", "1/"+string(ten(n)), "b", string(nines(n)+"/"+ten(n))) }
	expect(t, one)(answered(dist.Moment(tenth(1333), tenth(1333), 3)))
	refuse[answer](t, api.ErrOver)(answered(dist.Moment(tenth(1334), tenth(1334), 3)))
	refuse[answer](t, api.ErrOver)(answered(dist.Moment(tenth(500), tenth(500), 8)))
	expect(t, one)(answered(dist.Moment(tenth(499), tenth(499), 8)))
	// With p certain, a power of q is.
	certain := dist.Point("a")
	expect(t, answer{ten(3999), true})(answered(dist.Moment(certain, tenth(3999), 2)))
	expect(t, answer{ten(3999), true})(answered(dist.Moment(certain, tenth(1333), 4)))
	refuse[answer](t, api.ErrOver)(answered(dist.Moment(certain, tenth(2000), 3)))
	refuse[answer](t, api.ErrOver)(answered(dist.Moment(certain, tenth(1000), 5)))
	expect(t, one)(answered(dist.Moment(certain, tenth(3999), 1)))
	// The quotients of powers that fit (the powers of p have at most 2,001 digits, the quotient of those of b has 4,001, or 4,000 here),
	p := tenth(1000)
	refuse[answer](t, api.ErrOver)(answered(dist.Moment(p, near(2001), 2)))
	refuse[answer](t, api.ErrOver)(answered(dist.Moment(p, near(2000), 2)))
	first, last := over(times(p[0].P, p[0].P), near(1000)[0].P), over(times(p[1].P, p[1].P), near(1000)[1].P)
	expect(t, answer{plus(first, last), true})(answered(dist.Moment(p, near(1000), 2)))
	refuse[answer](t, api.ErrOver)(answered(dist.Moment(p, near(1001), 2)))
	// and the sum of quotients that fit: M*M / (8*(M-2)) in lowest terms, for odd M.
	halves := list("a", "1/2", "b", "1/2")
	for _, x := range []struct {
		m api.Num
		e api.Errno
	}{{nines(2000), api.OK}, {plus(ten(2000), "1"), api.ErrOver}} {
		q := list("a", string(over("2", x.m)), "b", string(minus("1", over("2", x.m))))
		if x.e != api.OK {
			refuse[answer](t, x.e)(answered(dist.Moment(halves, q, 2)))
			continue
		}
		want := over(times(x.m, x.m), times("8", minus(x.m, "2")))
		expect(t, answer{want, true})(answered(dist.Moment(halves, q, 2)))
	}
}
