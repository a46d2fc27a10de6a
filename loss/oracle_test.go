package loss_test

import (
	"reflect"
	"strconv"
	"strings"
	"testing"

	"privhouse/api"
	"privhouse/dist"
	"privhouse/loss"
	"privhouse/rat"
)

// must returns what a call has returned, which has no error.
func must[T any](x T, e api.Errno) T {
	if e != api.OK {
		panic(e)
	}
	return x
}

// expect checks that a call has succeeded with a value.
func expect[T any](t *testing.T, want T) func(x T, e api.Errno) {
	return func(x T, e api.Errno) {
		t.Helper()
		if e != api.OK || !reflect.DeepEqual(x, want) {
			t.Error(x, e, "instead of", want)
		}
	}
}

// refuse checks that a call has returned an error, and nothing else.
func refuse[T any](t *testing.T, want api.Errno) func(x T, e api.Errno) {
	return func(x T, e api.Errno) {
		t.Helper()
		if e != want || !reflect.ValueOf(x).IsZero() {
			t.Error(x, e, "instead of", want)
		}
	}
}

// of returns a loss.
func of(factor, delta api.Num) api.Loss { return api.Loss{Factor: factor, Delta: delta} }

// ten returns 10^n, nines returns 10^n - 1, threes a third of that.
func ten(n int) api.Num    { return api.Num("1" + strings.Repeat("0", n)) }
func nines(n int) api.Num  { return api.Num(strings.Repeat("9", n)) }
func threes(n int) api.Num { return api.Num(strings.Repeat("3", n)) }

// The operations, where they have no error.
func plus(a, b api.Num) api.Num      { return must(rat.Add(a, b)) }
func minus(a, b api.Num) api.Num     { return must(rat.Sub(a, b)) }
func times(a, b api.Num) api.Num     { return must(rat.Mul(a, b)) }
func over(a, b api.Num) api.Num      { return must(rat.Div(a, b)) }
func power(a api.Num, n int) api.Num { return must(rat.Pow(a, n)) }
func greater(a, b api.Num) api.Num   { return must(rat.Max(a, b)) }
func less(a, b api.Num) bool         { return must(rat.Cmp(a, b)) < 0 }

// ratio is a number top/bottom with a positive bottom.
type ratio struct{ top, bottom int }

// text returns the number in lowest terms.
func (r ratio) text() api.Num {
	a, b := max(r.top, -r.top), r.bottom
	for b != 0 {
		a, b = b, a%b
	}
	n, d := strconv.Itoa(r.top/a), strconv.Itoa(r.bottom/a)
	if d == "1" {
		return api.Num(n)
	}
	return api.Num(n + "/" + d)
}

func (r ratio) plus(s ratio) ratio {
	return ratio{r.top*s.bottom + s.top*r.bottom, r.bottom * s.bottom}
}
func (r ratio) times(s ratio) ratio { return ratio{r.top * s.top, r.bottom * s.bottom} }
func (r ratio) above(s ratio) bool  { return r.top*s.bottom > s.top*r.bottom }

// plain is a loss, written with plain ints; its delta may be above 1.
type plain struct{ factor, delta ratio }

func (p plain) loss() api.Loss {
	if p.delta.above(ratio{1, 1}) {
		return of(p.factor.text(), "1")
	}
	return of(p.factor.text(), p.delta.text())
}

func (p plain) plus(q plain) plain { return plain{p.factor.times(q.factor), p.delta.plus(q.delta)} }

// plains returns small losses: all pairs of some factors and some deltas.
func plains() []plain {
	var l []plain
	for _, factor := range []ratio{{1, 1}, {3, 2}, {2, 1}, {7, 3}, {10, 1}} {
		for _, delta := range []ratio{{0, 1}, {1, 10}, {1, 3}, {1, 2}, {2, 3}, {9, 10}, {1, 1}} {
			l = append(l, plain{factor, delta})
		}
	}
	return l
}

// model is a distribution on the keys a, b, c and so on: so many of all cases lead to each key.
type model []int

func (m model) all() int {
	sum := 0
	for _, n := range m {
		sum += n
	}
	return sum
}

// dist returns the distribution with a key late for the rest up to all cases.
func (m model) dist(all int) api.Dist {
	l := []api.Mass{{Key: "late", P: ratio{all - m.all(), all}.text()}}
	for i, n := range m {
		l = append(l, api.Mass{Key: string(rune('a' + i)), P: ratio{n, all}.text()})
	}
	return must(dist.Make(l))
}

// models returns all lists of so many numbers with a sum.
func models(many, sum int) []model {
	if many == 1 {
		return []model{{sum}}
	}
	var l []model
	for first := range sum + 1 {
		for _, rest := range models(many-1, sum-first) {
			l = append(l, append(model{first}, rest...))
		}
	}
	return l
}

// dists returns the distributions on so many keys whose probabilities are multiples of 1/all.
func dists(many, all int) []api.Dist {
	var l []api.Dist
	for _, m := range models(many, all) {
		l = append(l, m.dist(all))
	}
	return l
}

// least returns the least delta with which a loss with this factor holds for two distributions.
func least(p, q api.Dist, factor api.Num) api.Num {
	return greater(must(dist.Delta(p, q, factor)), must(dist.Delta(q, p, factor)))
}

// holds checks that a loss holds for two distributions.
func holds(t *testing.T, l api.Loss, p, q api.Dist) {
	t.Helper()
	if is, e := loss.Holds(l, p, q); !is || e != api.OK {
		t.Error(l, "does not hold for", p, q, e)
	}
}
