package loss_test

import (
	"math"
	"slices"
	"testing"

	"privhouse/api"
	"privhouse/dist"
	"privhouse/loss"
)

func TestExamples(t *testing.T) { // P9.1, P9.2, P9.3, P9.5
	a, b := of("3/2", "1/10"), of("2", "0")
	expect(t, of("3", "1/10"))(loss.Add(a, b))
	expect(t, of("9/4", "1/5"))(loss.Add(a, a))
	expect(t, of("1", "0"))(loss.Sum(nil))
	expect(t, of("9/4", "1/4"))(loss.Group(a, 2))
	expect(t, of("1", "0"))(loss.Group(a, 0))
	refuse[api.Loss](t, api.ErrRange)(loss.Group(b, 51))
	expect(t, of("2", "3/100"))(loss.Late(b, "1/100"))
	expect(t, of("2", "1"))(loss.Late(b, "1"))
	refuse[api.Loss](t, api.ErrRange)(loss.Late(b, "2"))
	expect(t, false)(loss.Fits(a, b))
	expect(t, false)(loss.Fits(b, a))
	expect(t, of("2", "1/10"))(loss.Max(a, b))
	expect(t, api.Num("1/2"))(loss.Alpha(1, "2"))
	expect(t, api.Num("6/7"))(loss.Alpha(2, "3/2"))
	expect(t, api.Num("5/4"))(loss.Beta(1, "2"))
	expect(t, api.Num("4/3"))(loss.Half("2"))
	refuse[api.Num](t, api.ErrRange)(loss.Alpha(1, "1"))
	status(t, api.ErrRange, of("1/2", "0"))
	status(t, api.ErrRange, of("2", "2"))
	status(t, api.OK, of("1", "0"))
}

// status checks what Check says of a loss.
func status(t *testing.T, want api.Errno, l api.Loss) {
	t.Helper()
	if e := loss.Check(l); e != want {
		t.Error(l, e, "instead of", want)
	}
}

// fault is a text with its error.
type fault struct {
	text api.Num
	e    api.Errno
}

// noNumbers are texts with errors of rat.Check.
func noNumbers() []fault {
	return []fault{
		{"", api.ErrForm}, {"x", api.ErrForm}, {"2/4", api.ErrForm}, {"4/2", api.ErrForm}, {"1/1", api.ErrForm}, {"0/2", api.ErrForm}, {"1/0", api.ErrForm}, {"-0", api.ErrForm}, {"01", api.ErrForm}, {"+1", api.ErrForm}, {"0.5", api.ErrForm}, {"1 ", api.ErrForm},
		{nines(4001), api.ErrOver}, {"-" + nines(4001), api.ErrOver}, {"1/" + ten(4000), api.ErrOver},
	}
}

// These numbers differ from 1 by little more than 1/10^4000.
func justAboveOne() api.Num { return nines(4000) + "/" + minus(nines(4000), "1") }
func justBelowOne() api.Num { return minus(nines(4000), "1") + "/" + nines(4000) }

// factors and deltas are texts with their errors in a loss.
func factors() []fault {
	l := noNumbers()
	for _, text := range []api.Num{"1", "2", "3/2", "1000000", nines(4000), ten(3999), plus("1", "1/"+ten(3999)), justAboveOne()} {
		l = append(l, fault{text, api.OK})
	}
	for _, text := range []api.Num{"0", "1/2", "-1", "-2", "-3/2", "-" + nines(4000), "1/" + ten(3999), justBelowOne()} {
		l = append(l, fault{text, api.ErrRange})
	}
	return l
}

func deltas() []fault {
	l := noNumbers()
	for _, text := range []api.Num{"0", "1", "1/2", "1/" + nines(4000), justBelowOne()} {
		l = append(l, fault{text, api.OK})
	}
	for _, text := range []api.Num{"-1", "-1/2", "-1/" + ten(3999), "2", "3/2", nines(4000), "-" + nines(4000), justAboveOne()} {
		l = append(l, fault{text, api.ErrRange})
	}
	return l
}

func TestCheck(t *testing.T) { // P9.1
	for _, factor := range factors() {
		for _, delta := range deltas() {
			want := factor.e
			// The form of both numbers goes before the range of either.
			if delta.e != api.OK && (want == api.OK || want == api.ErrRange) {
				want = delta.e
			}
			status(t, want, of(factor.text, delta.text))
		}
	}
	expect(t, of("1", "0"))(loss.None(), loss.Check(loss.None()))
}

// badLosses returns invalid losses with different errors.
func badLosses() map[api.Loss]api.Errno {
	return map[api.Loss]api.Errno{
		{}: api.ErrForm, of("2/4", "0"): api.ErrForm, of("2", ""): api.ErrForm, of("1/2", "x"): api.ErrForm, of(nines(4001), "x"): api.ErrOver, of("2", nines(4001)): api.ErrOver,
		of("1/2", "0"): api.ErrRange, of("2", "-1"): api.ErrRange, of("2", "3/2"): api.ErrRange, of("0", "2"): api.ErrRange,
	}
}

func TestInvalidLosses(t *testing.T) { // P9.1, P9.2, P9.3, P9.4
	good, long := of("2", "1/2"), of(nines(4000), "1/"+nines(4000))
	p, q := must(dist.Mix("1/2", dist.Point("a"), dist.Point("b"))), dist.Point("a")
	for bad, want := range badLosses() {
		pairs := [][2]api.Loss{{bad, good}, {good, bad}, {bad, long}, {long, bad}, {bad, bad}}
		for other := range badLosses() {
			pairs = append(pairs, [2]api.Loss{bad, other})
		}
		for _, x := range pairs {
			refuse[api.Loss](t, want)(loss.Add(x[0], x[1]))
			refuse[api.Loss](t, want)(loss.Max(x[0], x[1]))
			refuse[bool](t, want)(loss.Fits(x[0], x[1]))
			refuse[api.Loss](t, want)(loss.Sum(x[:]))
			// All elements are checked before any of them are added.
			refuse[api.Loss](t, want)(loss.Sum([]api.Loss{long, long, x[0], x[1], long}))
		}
		refuse[api.Loss](t, want)(loss.Sum([]api.Loss{bad}))
		for _, k := range []int{0, 1, 50, -1, 51} {
			refuse[api.Loss](t, want)(loss.Group(bad, k))
		}
		for _, u := range []api.Num{"0", "1/2", "2", "-1", "x", nines(4001)} {
			refuse[api.Loss](t, want)(loss.Late(bad, u))
		}
		for _, d := range [][2]api.Dist{{p, q}, {nil, q}, {p, {{Key: "a", P: "x"}}}, {{{Key: "a", P: "2"}}, nil}} {
			refuse[bool](t, want)(loss.Holds(bad, d[0], d[1]))
		}
	}
}

func TestAdd(t *testing.T) { // P9.2
	for _, a := range plains() {
		for _, b := range plains() {
			expect(t, a.plus(b).loss())(loss.Add(a.loss(), b.loss()))
		}
		expect(t, a.loss())(loss.Add(a.loss(), loss.None()))
		expect(t, a.loss())(loss.Add(loss.None(), a.loss()))
	}
}

func TestSum(t *testing.T) { // P9.2
	for _, l := range [][]api.Loss{nil, {}} {
		expect(t, loss.None())(loss.Sum(l))
	}
	for i, a := range plains() {
		expect(t, a.loss())(loss.Sum([]api.Loss{a.loss()}))
		for j, b := range plains() {
			c := plains()[(i+5*j)%len(plains())]
			expect(t, a.plus(b).loss())(loss.Sum([]api.Loss{a.loss(), b.loss()}))
			expect(t, a.plus(b).plus(c).loss())(loss.Sum([]api.Loss{a.loss(), b.loss(), c.loss()}))
		}
	}
	var many []api.Loss
	for range 100 {
		many = append(many, of("2", "1/100"))
	}
	expect(t, of(power("2", 99), "99/100"))(loss.Sum(many[1:]))
	expect(t, of(power("2", 100), "1"))(loss.Sum(many))
	expect(t, of(power("2", 101), "1"))(loss.Sum(append(many, many[0])))
}

func TestDeltasThatReachOne(t *testing.T) { // P9.2, P9.3
	tiny := "1/" + ten(1000)
	half := api.Num("1/2")
	for _, x := range []struct{ a, b, sum api.Num }{
		{half, minus(half, tiny), minus("1", tiny)}, {half, half, "1"}, {half, plus(half, tiny), "1"},
		{"0", minus("1", tiny), minus("1", tiny)}, {"0", "1", "1"}, {tiny, "1", "1"}, {"1", "1", "1"}, {"2/3", "2/3", "1"},
	} {
		want := of("6", x.sum)
		expect(t, want)(loss.Add(of("2", x.a), of("3", x.b)))
		expect(t, want)(loss.Add(of("2", x.b), of("3", x.a)))
		expect(t, want)(loss.Sum([]api.Loss{of("2", x.a), of("3", x.b)}))
		// With factor 1, two in a group add up their deltas, and lateness adds twice its probability.
		expect(t, of("1", x.sum))(loss.Late(of("1", x.a), times(half, x.b)))
		expect(t, of("1", x.sum))(loss.Late(of("1", x.b), times(half, x.a)))
	}
	for _, x := range []struct{ delta, sum api.Num }{{half, "1"}, {minus(half, tiny), minus("1", times("2", tiny))}, {plus(half, tiny), "1"}, {"0", "0"}, {"1", "1"}} {
		expect(t, of("1", x.sum))(loss.Group(of("1", x.delta), 2))
	}
}

func TestMaxAndFits(t *testing.T) { // P9.2
	for _, a := range plains() {
		for _, b := range plains() {
			want := a
			if b.factor.above(a.factor) {
				want.factor = b.factor
			}
			if b.delta.above(a.delta) {
				want.delta = b.delta
			}
			expect(t, want.loss())(loss.Max(a.loss(), b.loss()))
			expect(t, !a.factor.above(b.factor) && !a.delta.above(b.delta))(loss.Fits(a.loss(), b.loss()))
		}
	}
	// Numbers that differ only far behind, and numbers of 4,000 digits.
	tiny := "1/" + ten(3000)
	low, high := of("2", "1/2"), of(plus("2", tiny), plus("1/2", tiny))
	expect(t, true)(loss.Fits(low, high))
	expect(t, false)(loss.Fits(high, low))
	expect(t, false)(loss.Fits(of(high.Factor, low.Delta), low))
	expect(t, false)(loss.Fits(of(low.Factor, high.Delta), low))
	expect(t, high)(loss.Max(of(high.Factor, low.Delta), of(low.Factor, high.Delta)))
	edge := of(nines(4000), justBelowOne())
	expect(t, edge)(loss.Max(edge, of(justAboveOne(), "1/"+nines(4000))))
	expect(t, true)(loss.Fits(edge, edge))
	expect(t, true)(loss.Fits(of("1", "1"), of(justAboveOne(), "1")))
	expect(t, false)(loss.Fits(of("1", "1"), edge))
}

// grouped returns the loss of k steps, with all numbers on the way.
func grouped(p plain, k int) plain {
	sum, powers := ratio{0, 1}, ratio{1, 1}
	for range k {
		sum, powers = sum.plus(powers), powers.times(p.factor)
	}
	return plain{powers, p.delta.times(sum)}
}

func TestGroup(t *testing.T) { // P9.3
	for _, p := range plains() {
		expect(t, loss.None())(loss.Group(p.loss(), 0))
		expect(t, p.loss())(loss.Group(p.loss(), 1))
		for k := range 6 {
			expect(t, grouped(p, k).loss())(loss.Group(p.loss(), k))
		}
		for _, k := range []int{-1, 51, -50, 100, math.MinInt, math.MaxInt, 1<<32 + 1} {
			refuse[api.Loss](t, api.ErrRange)(loss.Group(p.loss(), k))
		}
	}
	for k := range 51 {
		expect(t, of("1", ratio{k, 60}.text()))(loss.Group(of("1", "1/60"), k))
		expect(t, of("1", ratio{min(k, 7), 7}.text()))(loss.Group(of("1", "1/7"), k))
		// The sum of the powers of R is (R^k-1) / (R-1).
		for _, factor := range []api.Num{"2", "3/2", "10", "101/100", ten(20) + "1/" + ten(21)} {
			sum := over(minus(power(factor, k), "1"), minus(factor, "1"))
			expect(t, of(power(factor, k), "0"))(loss.Group(of(factor, "0"), k))
			if tiny := "1/" + ten(1200); less(sum, ten(1200)) {
				expect(t, of(power(factor, k), times(tiny, sum)))(loss.Group(of(factor, tiny), k))
			}
			if k > 0 {
				expect(t, of(power(factor, k), "1"))(loss.Group(of(factor, "1"), k))
				// A delta that just reaches 1.
				expect(t, of(power(factor, k), "1"))(loss.Group(of(factor, over("1", sum)), k))
			}
		}
	}
}

func TestLate(t *testing.T) { // P9.3
	for _, p := range plains() {
		expect(t, p.loss())(loss.Late(p.loss(), "0"))
		expect(t, of(p.factor.text(), "1"))(loss.Late(p.loss(), "1"))
		for _, u := range []ratio{{1, 100}, {1, 30}, {1, 10}, {1, 4}, {1, 3}, {1, 2}, {99, 100}} {
			want := plain{p.factor, p.delta.plus(p.factor.plus(ratio{1, 1}).times(u))}
			expect(t, want.loss())(loss.Late(p.loss(), u.text()))
		}
		for _, u := range []api.Num{"-1", "-1/2", "-1/" + ten(3999), "-" + nines(4000), "2", "3/2", justAboveOne(), nines(4000)} {
			refuse[api.Loss](t, api.ErrRange)(loss.Late(p.loss(), u))
		}
		for _, x := range noNumbers() {
			refuse[api.Loss](t, x.e)(loss.Late(p.loss(), x.text))
		}
	}
}

// bounded reports whether a loss holds in one direction, from all sets of keys.
func bounded(p plain, from, to model) bool {
	all, others := from.all(), to.all()
	for set := range 1 << len(from) {
		left, right := ratio{0, all}, ratio{0, others}
		for i := range from {
			if set>>i&1 == 1 {
				left.top += from[i]
				right.top += to[i]
			}
		}
		if left.above(p.factor.times(right).plus(p.delta)) {
			return false
		}
	}
	return true
}

func TestHolds(t *testing.T) { // P9.4
	var small []model
	for all := 1; all <= 4; all++ {
		small = append(small, models(3, all)...)
	}
	one, both := 0, 0
	for _, p := range small {
		for _, q := range small {
			for _, l := range plains()[:21] {
				there, back := bounded(l, p, q), bounded(l, q, p)
				if there != back {
					one++
				}
				if there && back {
					both++
				}
				expect(t, there && back)(loss.Holds(l.loss(), p.dist(p.all()), q.dist(q.all())))
			}
		}
	}
	if one < 1000 || both < 1000 {
		t.Error("too few cases:", one, both)
	}
}

func TestHoldsExactly(t *testing.T) { // P9.4
	p, q := model{1, 1}.dist(2), model{1, 2}.dist(3)
	// With the factor 4/3, p is greater than allowed by 1/18, and q not at all.
	for delta, want := range map[api.Num]bool{"0": false, "1/19": false, minus("1/18", "1/"+ten(3000)): false, "1/18": true, plus("1/18", "1/"+ten(3000)): true, "1": true} {
		expect(t, want)(loss.Holds(of("4/3", delta), p, q))
		expect(t, want)(loss.Holds(of("4/3", delta), q, p))
	}
	for factor, want := range map[api.Num]bool{"1": false, "4/3": false, minus("3/2", "1/"+ten(3000)): false, "3/2": true, "2": true} {
		expect(t, want)(loss.Holds(of(factor, "0"), p, q))
		expect(t, want)(loss.Holds(of(factor, "0"), q, p))
	}
	a, b := dist.Point("a"), dist.Point("b")
	expect(t, true)(loss.Holds(of("1", "0"), a, a))
	expect(t, true)(loss.Holds(of("1", "1"), a, b))
	expect(t, false)(loss.Holds(of(nines(4000), justBelowOne()), a, b))
}

func TestErrorsOfDistributions(t *testing.T) { // P9.4
	good := model{1, 1}.dist(2)
	bad := []struct {
		d api.Dist
		e api.Errno
	}{
		{nil, api.ErrSum}, {api.Dist{{Key: "a", P: "1/2"}}, api.ErrSum}, {api.Dist{{Key: "a", P: "2/4"}}, api.ErrForm}, {api.Dist{{Key: "a", P: nines(4001)}}, api.ErrOver},
		{api.Dist{{Key: "a", P: "0"}}, api.ErrRange}, {api.Dist{{Key: "b", P: "1/2"}, {Key: "a", P: "1/2"}}, api.ErrOrder},
	}
	for _, l := range []api.Loss{loss.None(), of("2", "1"), of(nines(4000), "1/2")} {
		for _, x := range bad {
			refuse[bool](t, x.e)(loss.Holds(l, x.d, good))
			refuse[bool](t, x.e)(loss.Holds(l, good, x.d))
			for _, y := range bad {
				refuse[bool](t, x.e)(loss.Holds(l, x.d, y.d))
			}
		}
	}
}

func TestParameters(t *testing.T) { // P9.5
	for p := 2; p <= 12; p++ {
		for q := 1; q < p; q++ {
			factor := ratio{p, q}.text()
			expect(t, ratio{2 * p, p + q}.text())(loss.Half(factor))
			expect(t, ratio{q, p}.text())(loss.Alpha(1, factor))
			for _, sens := range []int{1, 2, 3, 4, 7, 10, 999, 1000, 999999, 1000000} {
				if sens > 1 {
					expect(t, ratio{sens * p, sens*p + p - q}.text())(loss.Alpha(sens, factor))
				}
				expect(t, ratio{2*sens*p + p - q, 2 * sens * p}.text())(loss.Beta(sens, factor))
			}
		}
	}
	// With R = 1 + 1/n,
	n := ten(1000)
	factor := plus("1", over("1", n))
	expect(t, over(n, plus(n, "1")))(loss.Alpha(1, factor))
	expect(t, over(plus(times("2", n), "2"), plus(times("2", n), "3")))(loss.Alpha(2, factor))
	expect(t, over(times("1000000", plus(n, "1")), plus(times("1000000", plus(n, "1")), "1")))(loss.Alpha(1000000, factor))
	expect(t, over(plus(times("2", n), "3"), plus(times("2", n), "2")))(loss.Beta(1, factor))
	expect(t, over(plus(times("2", n), "2"), plus(times("2", n), "1")))(loss.Half(factor))
}

func TestErrorsOfParameters(t *testing.T) { // P9.5
	check := func(sens int, factor api.Num, want api.Errno) {
		t.Helper()
		refuse[api.Num](t, want)(loss.Alpha(sens, factor))
		refuse[api.Num](t, want)(loss.Beta(sens, factor))
	}
	wrong := []int{0, -1, 1000001, -1000000, math.MinInt, math.MaxInt, 1<<32 + 1}
	for _, sens := range append([]int{1, 2, 1000000}, wrong...) {
		// The error of a text goes before the range of either argument.
		for _, x := range noNumbers() {
			check(sens, x.text, x.e)
			refuse[api.Num](t, x.e)(loss.Half(x.text))
		}
		for _, factor := range []api.Num{"1", "1/2", "0", "-1", "-2", "-3/2", justBelowOne(), "1/" + ten(3999), "-" + nines(4000)} {
			check(sens, factor, api.ErrRange)
			refuse[api.Num](t, api.ErrRange)(loss.Half(factor))
		}
	}
	for _, sens := range wrong {
		for _, factor := range []api.Num{"2", "3/2", justAboveOne(), nines(4000)} {
			check(sens, factor, api.ErrRange)
		}
	}
}

func TestArgumentsStay(t *testing.T) { // P2, R4
	list := []api.Loss{of("2", "2/3"), of("3/2", "1/10"), of("1", "1/2")}
	p, q := model{1, 1}.dist(2), model{1, 2}.dist(3)
	kept, left, right := slices.Clone(list), slices.Clone(p), slices.Clone(q)
	for range 2 {
		expect(t, of("3", "1"))(loss.Sum(list))
		expect(t, of("3", "23/30"))(loss.Sum(list[:2]))
		expect(t, true)(loss.Holds(of("3/2", "0"), p, q))
	}
	if !slices.Equal(list, kept) || !slices.Equal(p, left) || !slices.Equal(q, right) {
		t.Error(list, p, q)
	}
}
