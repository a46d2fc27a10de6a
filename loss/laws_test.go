package loss_test

import (
	"testing"

	"privhouse/api"
	"privhouse/dist"
	"privhouse/loss"
)

// tightest returns the loss with this factor that just holds for all pairs of neighbours in a list.
func tightest(factor api.Num, chain ...api.Dist) api.Loss {
	delta := api.Num("0")
	for i := range len(chain) - 1 {
		delta = greater(delta, least(chain[i], chain[i+1], factor))
	}
	return of(factor, delta)
}

// lists calls a function for all lists of so many elements of a list.
func lists[T any](l []T, many int, f func(chosen []T)) {
	chosen := make([]T, many)
	var fill func(i int)
	fill = func(i int) {
		if i == many {
			f(chosen)
			return
		}
		for _, x := range l {
			chosen[i] = x
			fill(i + 1)
		}
	}
	fill(0)
}

func TestSumsHoldForProducts(t *testing.T) { // P9.7
	factors := []api.Num{"1", "3/2", "2", "4"}
	lists(dists(2, 4), 4, func(d []api.Dist) {
		p, q := must(dist.Product(d[0], d[2])), must(dist.Product(d[1], d[3]))
		for _, f := range factors {
			a := tightest(f, d[0], d[1])
			for _, g := range factors {
				holds(t, must(loss.Add(a, tightest(g, d[2], d[3]))), p, q)
			}
		}
	})
	three := dists(3, 3)
	for i, a := range three {
		for j, b := range three {
			for k, c := range three {
				d := three[(i+3*j+7*k)%len(three)]
				p, q := must(dist.Product(must(dist.Product(a, b)), c)), must(dist.Product(must(dist.Product(b, d)), a))
				l := []api.Loss{tightest("2", a, b), tightest("3/2", b, d), tightest("1", c, a)}
				holds(t, must(loss.Sum(l)), p, q)
			}
		}
	}
}

func TestGroupsHoldForChains(t *testing.T) { // P9.8
	check := func(chain []api.Dist) {
		for _, factor := range []api.Num{"1", "3/2", "2"} {
			l := tightest(factor, chain...)
			holds(t, must(loss.Group(l, len(chain)-1)), chain[0], chain[len(chain)-1])
		}
	}
	for many := 1; many <= 5; many++ {
		lists(dists(2, 4), many, check)
	}
	lists(dists(3, 3), 3, check)
	// A chain for which the bound is reached: all of the probability comes from the delta.
	expect(t, false)(loss.Holds(of("1", "1/2"), model{4, 0}.dist(4), model{1, 3}.dist(4)))
	holds(t, must(loss.Group(of("1", "1/4"), 3)), model{4, 0}.dist(4), model{1, 3}.dist(4))
}

// fewer returns all distributions of what remains of a model if at most so many cases become late.
func fewer(m model, most int) []api.Dist {
	var l []api.Dist
	for a := range m[0] + 1 {
		for b := range m[1] + 1 {
			if rest := (model{a, b}); m.all()-rest.all() <= most {
				l = append(l, rest.dist(m.all()))
			}
		}
	}
	return l
}

func TestLateOutcomes(t *testing.T) { // P9.9
	const all = 6
	near := false
	for _, p := range models(2, all) {
		for _, q := range models(2, all) {
			for _, factor := range []api.Num{"1", "3/2", "3"} {
				l := tightest(factor, p.dist(all), q.dist(all))
				for _, most := range []int{0, 1, 2, 6} {
					u := ratio{most, all}.text()
					late := must(loss.Late(l, u))
					for _, x := range fewer(p, most) {
						for _, y := range fewer(q, most) {
							holds(t, late, x, y)
							near = near || most > 0 && least(x, y, factor) == plus(l.Delta, times(factor, u))
						}
					}
				}
			}
		}
	}
	// Where only one of two distributions loses outcomes, R*u of the (R+1)*u are needed.
	if !near {
		t.Error("no outcomes come close to the bound")
	}
}

func TestLateOutcomesThatWereLate(t *testing.T) { // P9.9
	// There may be late outcomes before, and each outcome may become late with its own probability.
	shares := []api.Num{"0", "1/8", "1/4"}
	some := []api.Dist{model{1, 2}.dist(4), model{2, 0}.dist(4), model{1, 1}.dist(2), model{0, 1}.dist(3), model{3, 1}.dist(4)}
	late := func(d api.Dist, a, b api.Num) api.Dist {
		var l []api.Mass
		for _, m := range d {
			share := map[string]api.Num{"a": a, "b": b, "late": "0"}[m.Key]
			l = append(l, api.Mass{Key: "late", P: times(m.P, share)}, api.Mass{Key: m.Key, P: times(m.P, minus("1", share))})
		}
		return must(dist.Make(l))
	}
	for _, p := range some {
		for _, q := range some {
			for _, factor := range []api.Num{"1", "2"} {
				bound := must(loss.Late(tightest(factor, p, q), "1/4"))
				lists(shares, 4, func(u []api.Num) {
					holds(t, bound, late(p, u[0], u[1]), late(q, u[2], u[3]))
				})
			}
		}
	}
}

func TestPowersOfParameters(t *testing.T) { // P9.10
	for _, factor := range []api.Num{"1000001/1000000", "101/100", "11/10", "4/3", "3/2", "2", "7/3", "10", "1000000", plus("1", "1/"+ten(40)), ten(40)} {
		half := must(loss.Half(factor))
		between(t, "1", half, factor)
		if less(factor, times(half, half)) {
			t.Error(factor, half)
		}
		for _, sens := range []int{1, 2, 3, 4, 5, 10, 20, 40} {
			alpha, beta := must(loss.Alpha(sens, factor)), must(loss.Beta(sens, factor))
			between(t, "0", alpha, "1")
			between(t, "1", beta, factor)
			if less(factor, power(over("1", alpha), sens)) || less(factor, power(beta, 2*sens)) {
				t.Error(factor, sens, alpha, beta)
			}
		}
	}
	// Powers of up to 4,000 digits.
	if less("2", power(over("1", must(loss.Alpha(1000, "2"))), 1000)) || less("2", power(must(loss.Beta(500, "2")), 1000)) {
		t.Error("the factor 2 is not kept")
	}
}

// between checks that a number is between two others, and not one of them.
func between(t *testing.T, low, a, high api.Num) {
	t.Helper()
	if !less(low, a) || !less(a, high) {
		t.Error(a, "is not between", low, "and", high)
	}
}
