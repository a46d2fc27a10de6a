package moment_test

import (
	"reflect"
	"strconv"
	"strings"
	"testing"

	"privhouse/api"
	"privhouse/dist"
	"privhouse/rat"
)

// must returns what a call has returned, which has no error.
func must[T any](x T, e api.Errno) T {
	if e != api.OK {
		panic(e)
	}
	return x
}

// expect checks that a call has succeeded with a value.
func expect[T any](t *testing.T, want T) func(x T, e api.Errno) {
	return func(x T, e api.Errno) {
		t.Helper()
		if e != api.OK || !reflect.DeepEqual(x, want) {
			t.Error(x, e, "instead of", want)
		}
	}
}

// refuse checks that a call has returned an error, and nothing else.
func refuse[T any](t *testing.T, want api.Errno) func(x T, e api.Errno) {
	return func(x T, e api.Errno) {
		t.Helper()
		if e != want || !reflect.ValueOf(x).IsZero() {
			t.Error(x, e, "instead of", want)
		}
	}
}

// choice is what Best returns.
type choice struct {
	order int
	loss  api.Loss
}

func chosen(order int, l api.Loss, e api.Errno) (choice, api.Errno) {
	return choice{order, l}, e
}

// of returns a loss.
func of(factor, delta api.Num) api.Loss { return api.Loss{Factor: factor, Delta: delta} }

// ones returns the curve with all M 1 and this Late, flat the one with all M equal and Late 0.
func ones(late api.Num) api.Curve {
	c := flat("1")
	c.Late = late
	return c
}

func flat(m api.Num) api.Curve {
	return api.Curve{M: [7]api.Num{m, m, m, m, m, m, m}, Late: "0"}
}

// with returns a curve with another M of an order.
func with(c api.Curve, order int, m api.Num) api.Curve {
	c.M[order-2] = m
	return c
}

// ten returns 10^n, nines returns 10^n - 1.
func ten(n int) api.Num   { return api.Num("1" + strings.Repeat("0", n)) }
func nines(n int) api.Num { return api.Num(strings.Repeat("9", n)) }

// These numbers differ from 1 by little more than 1/10^4000.
func justAboveOne() api.Num { return nines(4000) + "/" + minus(nines(4000), "1") }
func justBelowOne() api.Num { return minus(nines(4000), "1") + "/" + nines(4000) }

// The operations, where they have no error.
func plus(a, b api.Num) api.Num      { return must(rat.Add(a, b)) }
func minus(a, b api.Num) api.Num     { return must(rat.Sub(a, b)) }
func times(a, b api.Num) api.Num     { return must(rat.Mul(a, b)) }
func over(a, b api.Num) api.Num      { return must(rat.Div(a, b)) }
func power(a api.Num, n int) api.Num { return must(rat.Pow(a, n)) }
func greater(a, b api.Num) api.Num   { return must(rat.Max(a, b)) }
func atMostOne(a api.Num) api.Num    { return must(rat.Min(a, "1")) }
func less(a, b api.Num) bool         { return must(rat.Cmp(a, b)) < 0 }

// atMost checks that a number is not greater than another one.
func atMost(t *testing.T, a, b api.Num) {
	t.Helper()
	if less(b, a) {
		t.Error(a, "is greater than", b)
	}
}

// ratio is a number top/bottom in lowest terms with a positive bottom.
type ratio struct{ top, bottom int }

// part returns top/bottom in lowest terms.
func part(top, bottom int) ratio {
	a, b := max(top, -top), bottom
	for b != 0 {
		a, b = b, a%b
	}
	return ratio{top / a, bottom / a}
}

func (r ratio) text() api.Num {
	if r.bottom == 1 {
		return api.Num(strconv.Itoa(r.top))
	}
	return api.Num(strconv.Itoa(r.top) + "/" + strconv.Itoa(r.bottom))
}

func (r ratio) plus(s ratio) ratio {
	return part(r.top*s.bottom+s.top*r.bottom, r.bottom*s.bottom)
}

func (r ratio) times(s ratio) ratio {
	one, other := part(r.top, s.bottom), part(s.top, r.bottom)
	return ratio{one.top * other.top, one.bottom * other.bottom}
}

func (r ratio) inverse() ratio     { return ratio{r.bottom, r.top} }
func (r ratio) above(s ratio) bool { return r.top*s.bottom > s.top*r.bottom }

// raised returns a product of n equal factors.
func raised(x, n int) int {
	product := 1
	for range n {
		product *= x
	}
	return product
}

// plain is a curve, written with plain ints; its late may be above 1.
type plain struct {
	m    [7]ratio
	late ratio
}

func (p plain) curve() api.Curve {
	var c api.Curve
	for i, m := range p.m {
		c.M[i] = m.text()
	}
	c.Late = "1"
	if !p.late.above(ratio{1, 1}) {
		c.Late = p.late.text()
	}
	return c
}

// pure returns the curve of the factor p/q, for small p and q.
func pure(p, q int, late ratio) plain {
	c := plain{late: late}
	for i := range c.m {
		a := i + 2
		// The powers are p^a/q^a and q^(a-1)/p^(a-1).
		sum := part(raised(p, 2*a-1)+raised(q, 2*a-1), raised(p, a-1)*raised(q, a))
		c.m[i] = sum.times(part(q, p+q))
	}
	return c
}

// plains returns small curves with different M.
func plains() []plain {
	l := []plain{{[7]ratio{{1, 1}, {1, 1}, {1, 1}, {1, 1}, {1, 1}, {1, 1}, {1, 1}}, ratio{0, 1}}}
	for i, late := range []ratio{{0, 1}, {1, 100}, {1, 10}, {1, 3}, {1, 2}, {2, 3}, {99, 100}, {1, 1}} {
		p := plain{late: late}
		for j := range p.m {
			p.m[j] = part(11+(5*i+7*j)%13, 1+(i+2*j)%11)
		}
		l = append(l, p)
	}
	return l
}

// delta returns the delta of an order, by the formula; it may be above 1.
func (p plain) delta(order int, factor ratio) ratio {
	d := p.m[order-2].times(part(raised(order-1, order-1), 1)).times(part(1, raised(order, order)))
	for range order - 1 {
		d = d.times(factor.inverse())
	}
	return d.plus(factor.plus(ratio{1, 1}).times(p.late))
}

// model is a distribution on the keys a, b, c and so on: so many of all cases lead to each key.
type model []int

func (m model) all() int {
	sum := 0
	for _, n := range m {
		sum += n
	}
	return sum
}

// dist returns the distribution with a key late for the rest up to all cases.
func (m model) dist(all int) api.Dist {
	l := []api.Mass{{Key: "late", P: part(all-m.all(), all).text()}}
	for i, n := range m {
		l = append(l, api.Mass{Key: string(rune('a' + i)), P: part(n, all).text()})
	}
	return must(dist.Make(l))
}

// models returns all lists of so many numbers with a sum.
func models(many, sum int) []model {
	if many == 1 {
		return []model{{sum}}
	}
	var l []model
	for first := range sum + 1 {
		for _, rest := range models(many-1, sum-first) {
			l = append(l, append(model{first}, rest...))
		}
	}
	return l
}

// momentOf returns a moment, and whether there is one.
func momentOf(p, q api.Dist, order int) (api.Num, bool) {
	m, covered, e := dist.Moment(p, q, order)
	if e != api.OK {
		panic(e)
	}
	return m, covered
}

// tightest returns the least curve with Late 0 that holds for two distributions, if there is one.
func tightest(p, q api.Dist) (api.Curve, bool) {
	c := ones("0")
	for order := 2; order <= 8; order++ {
		there, covered := momentOf(p, q, order)
		back, covers := momentOf(q, p, order)
		if !covered || !covers {
			return api.Curve{}, false
		}
		c = with(c, order, greater(there, back))
	}
	return c, true
}
