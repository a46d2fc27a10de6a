package moment_test

import (
	"math"
	"testing"

	"privhouse/api"
	"privhouse/moment"
)

// status checks what Check says of a curve.
func status(t *testing.T, want api.Errno, c api.Curve) {
	t.Helper()
	if e := moment.Check(c); e != want {
		t.Error(c, e, "instead of", want)
	}
}

func TestExamples(t *testing.T) { // P10.1, P10.2, P10.3
	two := must(moment.Of("2", "0"))
	if two.M[0] != "3/2" || two.M[1] != "11/4" {
		t.Error(two)
	}
	expect(t, moment.None())(moment.Of("1", "0"))
	late := must(moment.Of("2", "1/100"))
	sum := must(moment.Add(late, late))
	if sum.M[0] != "9/4" || sum.Late != "1/50" {
		t.Error(sum)
	}
	expect(t, of("3", "1/8"))(moment.To(two, 2, "3"))
	expect(t, of("3", "33/200"))(moment.To(late, 2, "3"))
	refuse[api.Curve](t, api.ErrRange)(moment.Of("1/2", "0"))
	refuse[api.Loss](t, api.ErrRange)(moment.To(moment.None(), 9, "2"))
	refuse[api.Loss](t, api.ErrRange)(moment.To(moment.None(), 2, "1/2"))
}

func TestNone(t *testing.T) { // P10.1
	want := api.Curve{M: [7]api.Num{"1", "1", "1", "1", "1", "1", "1"}, Late: "0"}
	expect(t, want)(moment.None(), moment.Check(moment.None()))
}

// fault is a text with its error.
type fault struct {
	text api.Num
	e    api.Errno
}

// noNumbers are texts with errors of rat.Check.
func noNumbers() []fault {
	return []fault{
		{"", api.ErrForm}, {"x", api.ErrForm}, {"2/4", api.ErrForm}, {"4/2", api.ErrForm}, {"3/1", api.ErrForm}, {"0/2", api.ErrForm}, {"1/0", api.ErrForm}, {"-0", api.ErrForm}, {"01", api.ErrForm}, {"+1", api.ErrForm}, {"1.5", api.ErrForm}, {"1 ", api.ErrForm}, {"-2/4", api.ErrForm},
		{nines(4001), api.ErrOver}, {"-" + nines(4001), api.ErrOver}, {"1/" + ten(4000), api.ErrOver}, {ten(4000) + "/3", api.ErrOver},
	}
}

// factors are texts with their errors as a factor or as an M, lates those as a Late.
func factors() []fault {
	l := noNumbers()
	for _, text := range []api.Num{"1", "2", "3/2", "1000000", "1000001/1000000", justAboveOne(), nines(4000), ten(3999)} {
		l = append(l, fault{text, api.OK})
	}
	for _, text := range []api.Num{"0", "1/2", "-1", "-2", "-3/2", "1/" + ten(3999), justBelowOne(), "-" + nines(4000)} {
		l = append(l, fault{text, api.ErrRange})
	}
	return l
}

func lates() []fault {
	l := noNumbers()
	for _, text := range []api.Num{"0", "1", "1/2", "1/" + nines(4000), justBelowOne()} {
		l = append(l, fault{text, api.OK})
	}
	for _, text := range []api.Num{"-1", "-1/2", "-1/" + ten(3999), "2", "3/2", justAboveOne(), nines(4000), "-" + nines(4000)} {
		l = append(l, fault{text, api.ErrRange})
	}
	return l
}

// decided returns the first error of a text, otherwise ErrRange if a number is out of range.
func decided(parts ...api.Errno) api.Errno {
	result := api.OK
	for _, e := range parts {
		if e != api.OK && e != api.ErrRange {
			return e
		}
		result = max(result, e)
	}
	return result
}

func TestCheck(t *testing.T) { // P10.1
	status(t, api.ErrForm, api.Curve{})
	for order := 2; order <= 8; order++ {
		for _, m := range factors() {
			status(t, m.e, with(ones("0"), order, m.text))
			status(t, m.e, with(ones("1"), order, m.text))
		}
	}
	for _, late := range lates() {
		status(t, late.e, ones(late.text))
		c := flat("7/2")
		c.Late = late.text
		status(t, late.e, c)
	}
}

// eight is a curve as a list of its eight numbers.
type eight [8]fault

func (x eight) curve() api.Curve {
	c := api.Curve{Late: x[7].text}
	for i := range c.M {
		c.M[i] = x[i].text
	}
	return c
}

// samples are texts of each sort, for an M or for Late.
func samples(i int) []fault {
	l := []fault{{"1", api.OK}, {"x", api.ErrForm}, {nines(4001), api.ErrOver}}
	if i == 7 {
		return append(l, fault{"1/2", api.OK}, fault{"-1", api.ErrRange}, fault{"3/2", api.ErrRange})
	}
	return append(l, fault{"3/2", api.OK}, fault{"1/2", api.ErrRange}, fault{"-1", api.ErrRange})
}

func TestOrderOfErrors(t *testing.T) { // P10.1
	var good eight
	for i := range good {
		good[i] = fault{"1", api.OK}
	}
	for i := range good {
		for j := range i {
			for _, x := range samples(j) {
				for _, y := range samples(i) {
					c := good
					c[j], c[i] = x, y
					status(t, decided(x.e, y.e), c.curve())
					// All others are out of range, which never goes before the error of a text.
					for k := range c {
						if k != i && k != j {
							c[k] = fault{"-1", api.ErrRange}
						}
					}
					status(t, decided(x.e, y.e, api.ErrRange), c.curve())
				}
			}
		}
	}
}

// badCurves returns invalid curves with different errors.
func badCurves() map[api.Curve]api.Errno {
	long := ones("0")
	long.Late = nines(4001)
	return map[api.Curve]api.Errno{
		{}: api.ErrForm, flat("x"): api.ErrForm, with(ones("0"), 8, "2/4"): api.ErrForm, ones(""): api.ErrForm, with(ones("x"), 5, "1/2"): api.ErrForm,
		flat(nines(4001)): api.ErrOver, long: api.ErrOver, with(long, 2, "0"): api.ErrOver,
		with(ones("0"), 2, "1/2"): api.ErrRange, with(ones("0"), 8, "-1"): api.ErrRange, ones("-1/2"): api.ErrRange, ones("3/2"): api.ErrRange,
	}
}

// wrongOrders are ints that are no orders.
func wrongOrders() []int {
	return []int{1, 9, 0, -1, -2, 10, 1<<32 + 2, math.MinInt, math.MaxInt}
}

func TestInvalidCurves(t *testing.T) { // P10.1, P10.2, P10.3
	good, long := ones("1/2"), flat(nines(4000))
	for bad, want := range badCurves() {
		status(t, want, bad)
		for _, other := range []api.Curve{good, long} {
			refuse[api.Curve](t, want)(moment.Add(bad, other))
			refuse[api.Curve](t, want)(moment.Add(other, bad))
			refuse[bool](t, want)(moment.Fits(bad, other))
			refuse[bool](t, want)(moment.Fits(other, bad))
		}
		// The first one of two decides.
		for other := range badCurves() {
			refuse[api.Curve](t, want)(moment.Add(bad, other))
			refuse[bool](t, want)(moment.Fits(bad, other))
		}
		// Curves go before other arguments.
		for _, factor := range []api.Num{"2", "1/2", "x", nines(4001), nines(4000)} {
			for _, order := range append(wrongOrders(), 2, 5, 8) {
				refuse[api.Loss](t, want)(moment.To(bad, order, factor))
			}
			refuse[choice](t, want)(chosen(moment.Best(bad, factor)))
		}
	}
}

func TestOfChecks(t *testing.T) { // P10.2
	for _, factor := range factors() {
		for _, late := range lates() {
			want := decided(factor.e, late.e)
			// The powers of the long factors are too long.
			if want == api.OK && len(factor.text) > 1000 {
				want = api.ErrOver
			}
			c, e := moment.Of(factor.text, late.text)
			if e != want || e != api.OK && c != (api.Curve{}) || e == api.OK && c.Late != late.text {
				t.Error(factor, late, c, e)
			}
		}
	}
}

func TestOf(t *testing.T) { // P10.2
	for _, late := range []ratio{{0, 1}, {1, 1}, {1, 2}, {1, 100}} {
		for p := 1; p <= 10; p++ {
			for q := 1; q <= p; q++ {
				factor := part(p, q)
				expect(t, pure(factor.top, factor.bottom, late).curve())(moment.Of(factor.text(), late.text()))
				if q < p {
					refuse[api.Curve](t, api.ErrRange)(moment.Of(factor.inverse().text(), late.text()))
				}
			}
		}
	}
	// (R^3+1) / (R*(R+1)) is (R^2-R+1) / R, and (R^5+1) / (R^2*(R+1)) is (R^4-R^3+R^2-R+1) / R^2.
	for _, r := range []api.Num{ten(100), nines(77), "1000001/1000000", plus("1", "1/"+ten(90))} {
		c := must(moment.Of(r, "0"))
		expect(t, over(plus(minus(power(r, 2), r), "1"), r))(c.M[0], api.OK)
		expect(t, over(plus(minus(plus(minus(power(r, 4), power(r, 3)), power(r, 2)), r), "1"), power(r, 2)))(c.M[1], api.OK)
		for order := 2; order <= 8; order++ {
			whole := plus(power(r, order), power(r, 1-order))
			expect(t, whole)(times(c.M[order-2], plus(r, "1")), api.OK)
		}
	}
}

func TestAdd(t *testing.T) { // P10.2
	for _, a := range plains() {
		expect(t, a.curve())(moment.Add(a.curve(), moment.None()))
		expect(t, a.curve())(moment.Add(moment.None(), a.curve()))
		for _, b := range plains() {
			want := plain{late: a.late.plus(b.late)}
			for i := range want.m {
				want.m[i] = a.m[i].times(b.m[i])
			}
			expect(t, want.curve())(moment.Add(a.curve(), b.curve()))
		}
	}
	tiny := "1/" + ten(1000)
	half := api.Num("1/2")
	for _, x := range []struct{ a, b, sum api.Num }{
		{half, minus(half, tiny), minus("1", tiny)}, {half, half, "1"}, {half, plus(half, tiny), "1"}, {"1/3", "2/3", "1"},
		{"0", minus("1", tiny), minus("1", tiny)}, {"0", "1", "1"}, {tiny, "1", "1"}, {"1", "1", "1"}, {"0", "0", "0"}, {tiny, tiny, times("2", tiny)},
	} {
		expect(t, ones(x.sum))(moment.Add(ones(x.a), ones(x.b)))
		expect(t, ones(x.sum))(moment.Add(ones(x.b), ones(x.a)))
	}
}

func TestFits(t *testing.T) { // P10.2
	for _, a := range plains() {
		for _, b := range plains() {
			want := !a.late.above(b.late)
			for i := range a.m {
				want = want && !a.m[i].above(b.m[i])
			}
			expect(t, want)(moment.Fits(a.curve(), b.curve()))
		}
	}
	// One number alone is greater, by much or by little, or as text only.
	middle := flat("10")
	middle.Late = "1/2"
	for _, x := range []struct{ low, high api.Num }{{"9", "11"}, {"3/2", "100"}, {minus("10", "1/"+ten(3000)), plus("10", "1/"+ten(3000))}} {
		for order := 2; order <= 8; order++ {
			low, high := with(middle, order, x.low), with(middle, order, x.high)
			compare(t, low, middle, high)
			// Where another number is less, none is enough.
			for other := 2; other <= 8; other++ {
				if other != order {
					apart(t, with(high, other, x.low), middle)
				}
			}
			high.Late = "1/3"
			apart(t, high, middle)
			low.Late = "2/3"
			apart(t, low, middle)
		}
	}
	for _, x := range []struct{ low, high api.Num }{{"0", "1"}, {"4/9", "5/9"}, {minus("1/2", "1/"+ten(3000)), plus("1/2", "1/"+ten(3000))}} {
		low, high := middle, middle
		low.Late, high.Late = x.low, x.high
		compare(t, low, middle, high)
	}
	edge := flat(nines(4000))
	edge.Late = justBelowOne()
	compare(t, ones("1/"+nines(4000)), with(edge, 8, ten(3999)), edge)
}

// compare checks that each curve of a list fits those behind it and itself, but none before it.
func compare(t *testing.T, l ...api.Curve) {
	t.Helper()
	for i, a := range l {
		for j, b := range l {
			expect(t, i <= j)(moment.Fits(a, b))
		}
	}
}

// apart checks that none of two curves fits the other one.
func apart(t *testing.T, a, b api.Curve) {
	t.Helper()
	expect(t, false)(moment.Fits(a, b))
	expect(t, false)(moment.Fits(b, a))
}

func TestArgumentsOfTo(t *testing.T) { // P10.3
	for _, c := range []api.Curve{moment.None(), ones("1"), flat("9/4"), with(ones("1/2"), 3, nines(4000))} {
		for _, order := range wrongOrders() {
			// The order goes before the factor.
			for _, factor := range factors() {
				refuse[api.Loss](t, api.ErrRange)(moment.To(c, order, factor.text))
			}
		}
		for _, factor := range factors() {
			if factor.e == api.OK {
				continue
			}
			for order := 2; order <= 8; order++ {
				refuse[api.Loss](t, factor.e)(moment.To(c, order, factor.text))
			}
			refuse[choice](t, factor.e)(chosen(moment.Best(c, factor.text)))
		}
	}
}

// smallFactors are factors for deltas in plain ints.
func smallFactors() []ratio { return []ratio{{1, 1}, {3, 2}, {2, 1}, {7, 3}, {5, 1}} }

func TestTo(t *testing.T) { // P10.3
	for _, p := range plains() {
		for _, factor := range smallFactors() {
			for order := 2; order <= 8; order++ {
				want := of(factor.text(), atMostOne(p.delta(order, factor).text()))
				expect(t, want)(moment.To(p.curve(), order, factor.text()))
			}
		}
	}
}

// leading returns the M of an order that leads to a delta, with a factor and Late 0.
func leading(delta api.Num, order int, factor api.Num) api.Num {
	weight := part(raised(order-1, order-1), raised(order, order)).text()
	return over(times(delta, power(factor, order-1)), weight)
}

func TestDeltasThatReachOne(t *testing.T) { // P10.3
	tiny := "1/" + ten(1000)
	for _, factor := range []api.Num{"1", "3/2", "2", "1000000", "1000001/1000000"} {
		for order := 2; order <= 8; order++ {
			for _, x := range []struct{ all, delta api.Num }{
				{minus("1", tiny), minus("1", tiny)}, {"1", "1"}, {plus("1", tiny), "1"}, {"3", "1"}, {"1000", "1"}, {"1/2", "1/2"}, {plus("1/4", tiny), plus("1/4", tiny)},
			} {
				// All of the delta comes from M,
				m := leading(x.all, order, factor)
				expect(t, of(factor, x.delta))(moment.To(with(ones("0"), order, m), order, factor))
				// or some of it from Late,
				late := over("1/"+ten(20), plus(factor, "1"))
				m = leading(minus(x.all, "1/"+ten(20)), order, factor)
				if !less(m, "1") {
					expect(t, of(factor, x.delta))(moment.To(with(ones(late), order, m), order, factor))
				}
				// or all that does not come from the M 1.
				least := over("1", leading("1", order, factor))
				late = over(minus(x.all, least), plus(factor, "1"))
				if !less("1", late) {
					expect(t, of(factor, x.delta))(moment.To(ones(late), order, factor))
				}
			}
			expect(t, of(factor, "1"))(moment.To(ones("1"), order, factor))
		}
	}
}

// led returns the curve whose orders lead to these deltas with a factor.
func led(deltas [7]api.Num, factor, late api.Num) api.Curve {
	c := ones(late)
	for i, d := range deltas {
		c.M[i] = leading(d, i+2, factor)
	}
	return c
}

func TestBest(t *testing.T) { // P10.3
	tiny := "1/" + ten(1000)
	for _, factor := range []api.Num{"1", "3/2", "10"} {
		late := over("1/8", plus(factor, "1"))
		// Each set of orders has the least delta, together; the others have one that is greater by much or by little.
		for set := 1; set < 1<<7; set++ {
			for _, more := range []api.Num{"1/7", tiny} {
				var deltas [7]api.Num
				best := 0
				for i := range deltas {
					deltas[i] = "1/2"
					if set>>i&1 == 0 {
						deltas[i] = plus("1/2", times(more, part(1+(3*i)%7, 3).text()))
					} else if best == 0 {
						best = i + 2
					}
				}
				expect(t, choice{best, of(factor, "1/2")})(chosen(moment.Best(led(deltas, factor, "0"), factor)))
				expect(t, choice{best, of(factor, "5/8")})(chosen(moment.Best(led(deltas, factor, late), factor)))
			}
		}
		// Deltas above 1 are all the same.
		same := [7]api.Num{"7", "6", "5", "4", "3", "2", "1"}
		expect(t, choice{2, of(factor, "1")})(chosen(moment.Best(led(same, factor, "0"), factor)))
		expect(t, choice{2, of(factor, "1")})(chosen(moment.Best(led(same, factor, late), factor)))
		same[5] = "99/100"
		expect(t, choice{7, of(factor, "99/100")})(chosen(moment.Best(led(same, factor, "0"), factor)))
		expect(t, choice{2, of(factor, "1")})(chosen(moment.Best(led(same, factor, late), factor)))
		expect(t, choice{2, of(factor, "1")})(chosen(moment.Best(ones("1"), factor)))
	}
}

func TestBestOfPureFactors(t *testing.T) { // P10.3
	found := map[int]bool{}
	for _, p := range plains() {
		for _, c := range []api.Curve{p.curve(), must(moment.Of("2", p.late.text())), must(moment.Of("6/5", "0")), must(moment.Of("30", "0"))} {
			for _, factor := range []api.Num{"1", "11/10", "2", "7/3", "4", "10", "20", "100"} {
				want := choice{2, must(moment.To(c, 2, factor))}
				for order := 3; order <= 8; order++ {
					if l := must(moment.To(c, order, factor)); less(l.Delta, want.loss.Delta) {
						want = choice{order, l}
					}
				}
				expect(t, want)(chosen(moment.Best(c, factor)))
				found[want.order] = true
			}
		}
	}
	if !found[2] || !found[5] || !found[8] {
		t.Error("too few cases:", found)
	}
}

func TestSameResults(t *testing.T) { // P2, R4
	a, b := must(moment.Of("3/2", "1/10")), must(moment.Of("2", "1/7"))
	left, right := a, b
	first := must(moment.Add(a, b))
	spoiled := first
	spoiled.M[3], spoiled.Late = "x", "x"
	expect(t, first)(moment.Add(a, b))
	none := moment.None()
	none.M[0] = "x"
	expect(t, ones("0"))(moment.None(), api.OK)
	best := must(chosen(moment.Best(first, "4")))
	expect(t, best)(chosen(moment.Best(first, "4")))
	if a != left || b != right {
		t.Error(a, b)
	}
}
