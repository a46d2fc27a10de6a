package moment_test

import (
	"testing"

	"privhouse/api"
	"privhouse/dist"
	"privhouse/loss"
	"privhouse/moment"
)

// small returns distributions on so many keys, whose probabilities are multiples of 1/all.
func small(many, all int) []api.Dist {
	var l []api.Dist
	for _, m := range models(many, all) {
		l = append(l, m.dist(all))
	}
	return l
}

// apartBy returns the least factor by which two distributions differ at most, if there is one.
func apartBy(p, q api.Dist) (api.Num, bool) {
	there, covered, _ := dist.Factor(p, q)
	back, covers, _ := dist.Factor(q, p)
	if !covered || !covers {
		return "", false
	}
	return greater(there, back), true
}

func TestMomentsOfPureFactors(t *testing.T) { // P10.5
	reached := 0
	for _, d := range [][]api.Dist{small(2, 7), small(3, 6), small(4, 5)} {
		for _, p := range d {
			for _, q := range d {
				factor, is := apartBy(p, q)
				if !is {
					continue
				}
				c, _ := tightest(p, q)
				for _, r := range []api.Num{factor, times(factor, "8/7"), plus(factor, "3")} {
					bound := must(moment.Of(r, "0"))
					expect(t, true)(moment.Fits(c, bound))
					for i := range c.M {
						atMost(t, c.M[i], bound.M[i])
					}
					if c == bound && r != "1" {
						reached++
					}
				}
			}
		}
	}
	if reached == 0 {
		t.Error("no bound is reached")
	}
}

func TestDistributionsThatDifferByTheFactor(t *testing.T) { // P10.5
	for _, factor := range []api.Num{"1", "1000001/1000000", "11/10", "3/2", "2", "7/3", "10", "1000000", plus("1", "1/"+ten(20)), ten(20)} {
		more, fewer := over(factor, plus(factor, "1")), over("1", plus(factor, "1"))
		p, q := api.Dist{{Key: "x", P: more}, {Key: "y", P: fewer}}, api.Dist{{Key: "x", P: fewer}, {Key: "y", P: more}}
		c := must(moment.Of(factor, "0"))
		for order := 2; order <= 8; order++ {
			for _, m := range [][2]api.Dist{{p, q}, {q, p}} {
				x, covered := momentOf(m[0], m[1], order)
				if !covered || x != c.M[order-2] {
					t.Error(factor, order, x, c)
				}
			}
		}
	}
}

// bounded checks that the delta of each order is not less than that of two distributions.
func bounded(t *testing.T, p, q api.Dist, factor api.Num) {
	t.Helper()
	delta := must(dist.Delta(p, q, factor))
	for order := 2; order <= 8; order++ {
		if m, covered := momentOf(p, q, order); covered {
			l := must(moment.To(with(ones("0"), order, m), order, factor))
			atMost(t, delta, l.Delta)
		}
	}
}

func TestDeltasOfMoments(t *testing.T) { // P10.6
	for _, d := range [][]api.Dist{small(2, 6), small(3, 4)} {
		for _, p := range d {
			for _, q := range d {
				for _, factor := range []api.Num{"1", "11/10", "3/2", "2", "4"} {
					bounded(t, p, q, factor)
				}
			}
		}
	}
}

func TestDeltasThatMomentsReach(t *testing.T) { // P10.6
	for order := 2; order <= 8; order++ {
		for _, factor := range []api.Num{"1", "3/2", "2", "10"} {
			// What is certain in p has the probability (a-1) / (a*R) in q: here the bound is exact.
			rest := over(part(order-1, order).text(), factor)
			p, q := dist.Point("x"), must(dist.Mix(rest, dist.Point("x"), dist.Point("y")))
			bounded(t, p, q, factor)
			m, _ := momentOf(p, q, order)
			want := of(factor, must(dist.Delta(p, q, factor)))
			expect(t, want)(moment.To(with(ones("0"), order, m), order, factor))
			expect(t, part(1, order).text())(want.Delta, api.OK)
		}
	}
}

// fewer returns all distributions of what remains of a model if at most so many cases become late.
func fewer(m model, most int) []api.Dist {
	var l []api.Dist
	for a := range m[0] + 1 {
		for b := range m[1] + 1 {
			if rest := (model{a, b}); m.all()-rest.all() <= most {
				l = append(l, rest.dist(m.all()))
			}
		}
	}
	return l
}

// holds checks that all losses of a curve hold for two distributions.
func holds(t *testing.T, c api.Curve, factors []api.Num, orders []int, p, q api.Dist) {
	t.Helper()
	for _, factor := range factors {
		for _, order := range orders {
			l := must(moment.To(c, order, factor))
			if is, e := loss.Holds(l, p, q); !is || e != api.OK {
				t.Error(l, "does not hold for", p, q, e)
			}
		}
	}
}

// late returns a curve with another Late.
func late(c api.Curve, u api.Num) api.Curve {
	c.Late = u
	return c
}

func TestCurvesHoldForLateOutcomes(t *testing.T) { // P10.7
	const all = 5
	orders := []int{2, 3, 4, 5, 6, 7, 8}
	needed := false
	for _, p := range models(2, all) {
		for _, q := range models(2, all) {
			c, is := tightest(p.dist(all), q.dist(all))
			if !is {
				continue
			}
			for _, most := range []int{0, 1, 2} {
				c := late(c, part(most, all).text())
				for _, x := range fewer(p, most) {
					for _, y := range fewer(q, most) {
						holds(t, c, []api.Num{"1", "3/2", "4"}, orders, x, y)
						without := must(moment.To(late(c, "0"), 8, "4"))
						is, _ := loss.Holds(without, x, y)
						needed = needed || !is
					}
				}
			}
		}
	}
	if !needed {
		t.Error("no outcomes are late often enough")
	}
}

// lateBy returns a distribution where each of two outcomes becomes late with its own probability.
func lateBy(d api.Dist, a, b api.Num) api.Dist {
	var l []api.Mass
	for _, m := range d {
		share := map[string]api.Num{"a": a, "b": b}[m.Key]
		if share == "" {
			share = "0"
		}
		l = append(l, api.Mass{Key: "late", P: times(m.P, share)}, api.Mass{Key: m.Key, P: times(m.P, minus("1", share))})
	}
	return must(dist.Make(l))
}

// joined returns the product of two distributions, where each pair with a late part is late.
func joined(p, q api.Dist) api.Dist {
	product := must(dist.Product(p, q))
	var from, to []string
	for _, x := range p {
		for _, y := range q {
			if x.Key == "late" || y.Key == "late" {
				from, to = append(from, x.Key+"|"+y.Key), append(to, "late")
			}
		}
	}
	return must(dist.Push(product, from, to))
}

// replaced checks that a distribution arises from another one by replacing outcomes by late ones with a probability of at most u.
func replaced(t *testing.T, from, to api.Dist, u api.Num) {
	t.Helper()
	atMost(t, minus(dist.At(to, "late"), dist.At(from, "late")), u)
	for _, m := range to {
		if m.Key != "late" {
			atMost(t, m.P, dist.At(from, m.Key))
		}
	}
}

func TestSumsHoldForProducts(t *testing.T) { // P10.7
	pairs := [][2]model{{{1, 3}, {2, 2}}, {{3, 1}, {3, 1}}, {{2, 2}, {3, 1}}, {{1, 3}, {3, 1}}}
	shares := [][4]api.Num{{"0", "0", "0", "0"}, {"1/4", "0", "0", "1/8"}, {"1/4", "1/4", "0", "0"}, {"0", "1/8", "1/4", "1/4"}, {"1/8", "1/8", "1/8", "1/8"}}
	lates := []api.Num{"0", "1/4", "1/4", "1/4", "1/8"}
	for _, one := range pairs {
		for _, other := range pairs {
			a, _ := tightest(one[0].dist(4), one[1].dist(4))
			b, _ := tightest(other[0].dist(4), other[1].dist(4))
			for i, u := range shares {
				for j, v := range shares {
					sum := must(moment.Add(late(a, lates[i]), late(b, lates[j])))
					p1, q1 := lateBy(one[0].dist(4), u[0], u[1]), lateBy(one[1].dist(4), u[2], u[3])
					p2, q2 := lateBy(other[0].dist(4), v[0], v[1]), lateBy(other[1].dist(4), v[2], v[3])
					checkSum(t, sum, [2]api.Dist{one[0].dist(4), other[0].dist(4)}, [2]api.Dist{one[1].dist(4), other[1].dist(4)}, [2]api.Dist{p1, p2}, [2]api.Dist{q1, q2})
				}
			}
		}
	}
}

// checkSum checks that a curve holds for the products of p and q, which come from others with moments.
func checkSum(t *testing.T, sum api.Curve, fromP, fromQ, p, q [2]api.Dist) {
	t.Helper()
	before, after := joined(fromP[0], fromP[1]), joined(fromQ[0], fromQ[1])
	least, _ := tightest(before, after)
	expect(t, true)(moment.Fits(least, sum))
	x, y := joined(p[0], p[1]), joined(q[0], q[1])
	replaced(t, before, x, sum.Late)
	replaced(t, after, y, sum.Late)
	factors, orders := []api.Num{"1", "3"}, []int{2, 5, 8}
	holds(t, sum, factors, orders, x, y)
	// The losses hold, too, if it is told which part is late.
	holds(t, sum, factors, orders, must(dist.Product(p[0], p[1])), must(dist.Product(q[0], q[1])))
}

func TestSumsOfCurvesOfProducts(t *testing.T) { // P10.7
	// Where no answer is late, the least curve of a product is at most the sum, and equal to it if the same directions count.
	equal := 0
	for _, a := range small(2, 4) {
		for _, b := range small(2, 4) {
			one, is := tightest(a, b)
			if !is {
				continue
			}
			for _, c := range small(3, 3) {
				for _, d := range small(3, 3) {
					other, is := tightest(c, d)
					if !is {
						continue
					}
					sum := must(moment.Add(one, other))
					least, _ := tightest(must(dist.Product(a, c)), must(dist.Product(b, d)))
					expect(t, true)(moment.Fits(least, sum))
					if sum == least && one != moment.None() && other != moment.None() {
						equal++
					}
				}
			}
		}
	}
	if equal == 0 {
		t.Error("no sum is reached")
	}
}
