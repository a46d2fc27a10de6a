package dist_test

import (
	"reflect"
	"sort"
	"strconv"
	"strings"
	"testing"

	"privhouse/api"
	"privhouse/dist"
	"privhouse/rat"
)

// must returns what a call has returned, which has no error.
func must[T any](x T, e api.Errno) T {
	if e != api.OK {
		panic(e)
	}
	return x
}

// expect checks that a call has succeeded with a value.
func expect[T any](t *testing.T, want T) func(x T, e api.Errno) {
	return func(x T, e api.Errno) {
		t.Helper()
		if e != api.OK || !reflect.DeepEqual(x, want) {
			t.Error(x, e, "instead of", want)
		}
	}
}

// refuse checks that a call has returned an error, and nothing else.
func refuse[T any](t *testing.T, want api.Errno) func(x T, e api.Errno) {
	return func(x T, e api.Errno) {
		t.Helper()
		if e != want || !reflect.ValueOf(x).IsZero() {
			t.Error(x, e, "instead of", want)
		}
	}
}

// answer is what Factor and Moment return.
type answer struct {
	x       api.Num
	covered bool
}

func answered(x api.Num, covered bool, e api.Errno) (answer, api.Errno) {
	return answer{x, covered}, e
}

// status checks what Check says of a list.
func status(t *testing.T, want api.Errno, d api.Dist) {
	t.Helper()
	if e := dist.Check(d); e != want {
		t.Error(d, e, "instead of", want)
	}
}

// list returns a list of masses from keys and probabilities that take turns.
func list(texts ...string) api.Dist {
	var d api.Dist
	for i := 0; i < len(texts); i += 2 {
		d = append(d, api.Mass{Key: texts[i], P: api.Num(texts[i+1])})
	}
	return d
}

// repeated returns a text so many times.
func repeated(text string, n int) api.Num { return api.Num(strings.Repeat(text, n)) }

// ten returns 10^n, nines returns 10^n - 1.
func ten(n int) api.Num   { return "1" + repeated("0", n) }
func nines(n int) api.Num { return repeated("9", n) }

// The four operations, where they have no error.
func plus(a, b api.Num) api.Num  { return must(rat.Add(a, b)) }
func minus(a, b api.Num) api.Num { return must(rat.Sub(a, b)) }
func times(a, b api.Num) api.Num { return must(rat.Mul(a, b)) }
func over(a, b api.Num) api.Num  { return must(rat.Div(a, b)) }

// atMost checks that a number is not greater than another one.
func atMost(t *testing.T, a, b api.Num) {
	t.Helper()
	if must(rat.Cmp(a, b)) > 0 {
		t.Error(a, "is greater than", b)
	}
}

// fraction returns n/d for a positive d.
func fraction(n, d int) api.Num {
	a, b := max(n, -n), d
	for b != 0 {
		a, b = b, a%b
	}
	n, d = n/a, d/a
	if d == 1 {
		return api.Num(strconv.Itoa(n))
	}
	return api.Num(strconv.Itoa(n) + "/" + strconv.Itoa(d))
}

// model is a distribution on the keys a, b, c and so on, written with plain ints: so many of all cases lead to each key.
type model struct{ many []int }

func (m model) all() int {
	sum := 0
	for _, n := range m.many {
		sum += n
	}
	return sum
}

func (m model) key(i int) string { return string(rune('a' + i)) }

func (m model) dist() api.Dist {
	cases := map[string]int{}
	for i, n := range m.many {
		cases[m.key(i)] += n
	}
	return shared(cases, m.all())
}

// shared returns the distribution with so many of all cases for each key.
func shared(cases map[string]int, all int) api.Dist {
	var keys []string
	for key, n := range cases {
		if n != 0 {
			keys = append(keys, key)
		}
	}
	sort.Strings(keys)
	var d api.Dist
	for _, key := range keys {
		d = append(d, api.Mass{Key: key, P: fraction(cases[key], all)})
	}
	return d
}

// models returns all distributions on so many keys of which the probabilities are multiples of 1/all, for any number of all cases up to a limit.
func models(keys, limit int) []model {
	var l []model
	seen := map[string]bool{}
	for all := 1; all <= limit; all++ {
		for _, many := range parts(keys, all) {
			m := model{many}
			var name strings.Builder
			for _, x := range m.dist() {
				name.WriteString(x.Key + string(x.P) + " ")
			}
			if !seen[name.String()] {
				seen[name.String()] = true
				l = append(l, m)
			}
		}
	}
	return l
}

// parts returns all lists of so many numbers with a sum.
func parts(many, sum int) [][]int {
	if many == 1 {
		return [][]int{{sum}}
	}
	var l [][]int
	for first := range sum + 1 {
		for _, rest := range parts(many-1, sum-first) {
			l = append(l, append([]int{first}, rest...))
		}
	}
	return l
}

// ratio is a number top/bottom.
type ratio struct{ top, bottom int }

func (r ratio) text() api.Num { return fraction(r.top, r.bottom) }

// advantages returns, for each set of keys, how much more probable it is in p than factor times in q.
func advantages(p, q model, factor ratio) []ratio {
	all, others := p.all(), q.all()
	var l []ratio
	for set := range 1 << len(p.many) {
		sum := ratio{0, factor.bottom * all * others}
		for i, n := range p.many {
			if set>>i&1 == 1 {
				sum.top += factor.bottom*n*others - factor.top*q.many[i]*all
			}
		}
		l = append(l, sum)
	}
	return l
}

// greatest returns the greatest number of a list whose elements are not all negative.
func greatest(l []ratio) api.Num {
	most := ratio{0, 1}
	for _, r := range l {
		if r.top*most.bottom > most.top*r.bottom {
			most = r
		}
	}
	return most.text()
}

// missing reports whether an outcome of p is not one of q.
func missing(p, q model) bool {
	for i, n := range p.many {
		if n > 0 && q.many[i] == 0 {
			return true
		}
	}
	return false
}

// factor returns the greatest quotient of the probabilities in p and q.
func factor(p, q model) answer {
	if missing(p, q) {
		return answer{}
	}
	var l []ratio
	for i, n := range p.many {
		if n > 0 {
			l = append(l, ratio{n * q.all(), p.all() * q.many[i]})
		}
	}
	return answer{greatest(l), true}
}

// moment returns the mean, in p, of a power of the quotient of the probabilities in p and q.
func moment(p, q model, order int) answer {
	if missing(p, q) {
		return answer{}
	}
	sum := api.Num("0")
	for i, n := range p.many {
		if n == 0 {
			continue
		}
		mean := fraction(n, p.all())
		for range order - 1 {
			mean = times(mean, fraction(n*q.all(), p.all()*q.many[i]))
		}
		sum = plus(sum, mean)
	}
	return answer{sum, true}
}
