package dist_test

import (
	"slices"
	"testing"

	"privhouse/api"
	"privhouse/dist"
	"privhouse/rat"
)

// probability returns the probability of a set of outcomes.
func probability(d api.Dist, set func(key string) bool) api.Num {
	sum := api.Num("0")
	for _, m := range d {
		if set(m.Key) {
			sum = plus(sum, m.P)
		}
	}
	return sum
}

// bounded checks P8.6 for all sets of the outcomes of two distributions.
func bounded(t *testing.T, p, q api.Dist, factor api.Num) {
	t.Helper()
	delta := must(dist.Delta(p, q, factor))
	var keys []string
	for _, m := range append(slices.Clone(p), q...) {
		if !slices.Contains(keys, m.Key) {
			keys = append(keys, m.Key)
		}
	}
	reached := false
	for set := range 1 << len(keys) {
		in := func(key string) bool { return set>>slices.Index(keys, key)&1 == 1 }
		left, right := probability(p, in), plus(times(factor, probability(q, in)), delta)
		atMost(t, left, right)
		reached = reached || left == right
	}
	if !reached {
		t.Error(p, q, factor, delta, "is not reached")
	}
}

func TestDeltaBoundsAllSets(t *testing.T) { // P8.6
	// Distributions by models are covered by TestDeltas.
	coins := models(2, 3)
	for i, a := range coins {
		for j, b := range coins {
			c, d := coins[(i+2*j)%len(coins)], coins[(3*i+j+1)%len(coins)]
			p, q := must(dist.Product(a.dist(), b.dist())), must(dist.Product(c.dist(), d.dist()))
			x, y := must(dist.Mix("2/7", p, c.dist())), must(dist.Mix("2/7", q, a.dist()))
			for _, factor := range []api.Num{"0", "1/3", "1", "8/5", "3"} {
				bounded(t, p, q, factor)
				bounded(t, x, y, factor)
				bounded(t, x, q, factor)
				bounded(t, must(dist.Push(x, []string{"a", "a|b"}, []string{"b|a", "b"})), y, factor)
			}
		}
	}
}

func TestPushedOutcomesDifferLess(t *testing.T) { // P8.7
	from := []string{"a", "b", "c"}
	factors := []api.Num{"1/2", "1", "2"}
	three := models(3, 3)
	for x := range 27 {
		to := []string{from[x%3], from[x/3%3], from[x/9]}
		var pushed []api.Dist
		for _, m := range three {
			pushed = append(pushed, must(dist.Push(m.dist(), from, to)))
		}
		for i, p := range three {
			for j, q := range three {
				factor := factors[(i+j)%len(factors)]
				atMost(t, must(dist.Delta(pushed[i], pushed[j], factor)), must(dist.Delta(p.dist(), q.dist(), factor)))
			}
		}
	}
}

// fours calls a function for all lists of four small distributions with two outcomes.
func fours(f func(a, b, c, d api.Dist)) {
	coins := models(2, 3)
	for _, a := range coins {
		for _, b := range coins {
			for _, c := range coins {
				for _, d := range coins {
					f(a.dist(), b.dist(), c.dist(), d.dist())
				}
			}
		}
	}
}

func TestProductsAddDeltas(t *testing.T) { // P8.8
	factors := []api.Num{"0", "1/2", "1", "3/2", "2"}
	fours(func(a, b, c, d api.Dist) {
		p, q := must(dist.Product(a, c)), must(dist.Product(b, d))
		for _, f := range factors {
			one := must(dist.Delta(a, b, f))
			for _, g := range factors {
				sum := plus(one, must(dist.Delta(c, d, g)))
				atMost(t, must(dist.Delta(p, q, times(f, g))), sum)
			}
		}
	})
}

func TestMixturesMixDeltas(t *testing.T) { // P8.9
	for _, weight := range []api.Num{"0", "1/3", "3/4", "1"} {
		rest := minus("1", weight)
		fours(func(a, b, c, d api.Dist) {
			p, q := must(dist.Mix(weight, a, c)), must(dist.Mix(weight, b, d))
			for _, f := range []api.Num{"1/2", "1", "2"} {
				one, other := must(dist.Delta(a, b, f)), must(dist.Delta(c, d, f))
				atMost(t, must(dist.Delta(p, q, f)), plus(times(weight, one), times(rest, other)))
			}
		})
	}
}

func TestMomentsOfProducts(t *testing.T) { // P8.10
	fours(func(a, b, c, d api.Dist) {
		p, q := must(dist.Product(a, c)), must(dist.Product(b, d))
		for order := 1; order <= 8; order++ {
			one := must(answered(dist.Moment(a, b, order)))
			other := must(answered(dist.Moment(c, d, order)))
			var want answer
			if one.covered && other.covered {
				want = answer{times(one.x, other.x), true}
			}
			expect(t, want)(answered(dist.Moment(p, q, order)))
		}
	})
}

func TestMomentsAreAtLeastOne(t *testing.T) { // P8.10
	for _, p := range models(3, 4) {
		for _, q := range models(3, 4) {
			for order := 1; order <= 8; order++ {
				x := must(answered(dist.Moment(p.dist(), q.dist(), order)))
				if x.covered {
					atMost(t, "1", x.x)
				}
			}
		}
	}
}

func TestFormOfDistributions(t *testing.T) { // P8.2, P8.3
	three := models(3, 3)
	for i, a := range three {
		b := three[(5*i+3)%len(three)]
		product := must(dist.Product(a.dist(), b.dist()))
		for _, d := range []api.Dist{product, must(dist.Mix("2/5", product, b.dist())), must(dist.Push(product, []string{"a|b", "c|c"}, []string{"z", "a|a"})), dist.Point("x")} {
			sum, before := api.Num("0"), ""
			for _, m := range d {
				if m.Key <= before || must(rat.Sign(m.P)) <= 0 {
					t.Error(m, "after", before)
				}
				sum, before = plus(sum, m.P), m.Key
			}
			if sum != "1" {
				t.Error(sum)
			}
			status(t, api.OK, d)
		}
	}
}

func TestArgumentsStay(t *testing.T) { // P2, R4
	a, b := list("a", "1/2", "b", "1/2"), list("a", "1/3", "c", "2/3")
	messy := list("b", "1/2", "a", "1/4", "a", "1/4", "c", "0")
	from, to := []string{"b", "a", "b"}, []string{"a", "b", "c"}
	kept := []api.Dist{slices.Clone(a), slices.Clone(b), slices.Clone(messy)}
	for _, call := range []func() (api.Dist, api.Errno){
		func() (api.Dist, api.Errno) { return dist.Make(messy) },
		func() (api.Dist, api.Errno) { return dist.Make(a) },
		func() (api.Dist, api.Errno) { return dist.Point("a"), api.OK },
		func() (api.Dist, api.Errno) { return dist.Product(a, b) },
		func() (api.Dist, api.Errno) { return dist.Mix("0", a, b) },
		func() (api.Dist, api.Errno) { return dist.Mix("1", a, b) },
		func() (api.Dist, api.Errno) { return dist.Mix("1/2", a, b) },
		func() (api.Dist, api.Errno) { return dist.Push(a, nil, nil) },
		func() (api.Dist, api.Errno) { return dist.Push(a, from, to) },
	} {
		first := must(call())
		want := slices.Clone(first)
		for i := range first {
			first[i] = api.Mass{Key: "spoiled", P: "7"}
		}
		expect(t, want)(call())
	}
	dist.Check(messy)
	dist.At(messy, "c")
	dist.Same(messy, a)
	dist.Delta(a, b, "1/2")
	dist.Factor(a, b)
	dist.Moment(a, b, 3)
	for i, d := range []api.Dist{a, b, messy} {
		expect(t, kept[i])(d, api.OK)
	}
	if !slices.Equal(from, []string{"b", "a", "b"}) || !slices.Equal(to, []string{"a", "b", "c"}) {
		t.Error(from, to)
	}
}
