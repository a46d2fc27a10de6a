package bell_test

import (
	"reflect"
	"sort"
	"strconv"
	"strings"
	"testing"

	"privhouse/api"
	"privhouse/bell"
	"privhouse/bits"
	"privhouse/rat"
)

// must returns what a call has returned, which has no error.
func must[T any](x T, e api.Errno) T {
	if e != api.OK {
		panic(e)
	}
	return x
}

// expect checks that a call has succeeded with a value.
func expect[T any](t *testing.T, want T) func(x T, e api.Errno) {
	return func(x T, e api.Errno) {
		t.Helper()
		if e != api.OK || !reflect.DeepEqual(x, want) {
			t.Error(x, e, "instead of", want)
		}
	}
}

// refuse checks that a call has returned an error, and nothing else.
func refuse[T any](t *testing.T, want api.Errno) func(x T, e api.Errno) {
	return func(x T, e api.Errno) {
		t.Helper()
		if e != want || !reflect.ValueOf(x).IsZero() {
			t.Error(x, e, "instead of", want)
		}
	}
}

// refused checks that all functions return an error for what is no bell, whatever the other arguments are.
func refused(t *testing.T, q api.Num, bound int, b api.Bits, n int, want api.Errno) {
	t.Helper()
	refuse[[]api.Num](t, want)(bell.Weights(q, bound))
	refuse[api.Draw](t, want)(bell.Draw(q, bound, b))
	refuse[api.Num](t, want)(bell.Mass(q, bound, n))
	refuse[api.Dist](t, want)(bell.Exact(q, bound))
	refuse[api.Dist](t, want)(bell.Law(q, bound, n))
	refuse[api.Num](t, want)(bell.Late(q, bound, n))
}

// accepted checks that all functions accept a bell.
func accepted(t *testing.T, q api.Num, bound int) {
	t.Helper()
	for _, e := range []api.Errno{
		last(bell.Weights(q, bound)), last(bell.Draw(q, bound, "01")), last(bell.Mass(q, bound, 0)),
		last(bell.Exact(q, bound)), last(bell.Law(q, bound, 2)), last(bell.Late(q, bound, 2)),
	} {
		if e != api.OK {
			t.Error(len(q), bound, e)
		}
	}
}
func last[T any](_ T, e api.Errno) api.Errno { return e }

// decided and late are the results of draws.
func decided(value, used int) api.Draw { return api.Draw{Done: true, Value: value, Used: used} }
func late(used int) api.Draw           { return api.Draw{Used: used} }

// repeated returns a text so many times.
func repeated(text string, n int) api.Num { return api.Num(strings.Repeat(text, n)) }

// pattern returns n bits that repeat a pattern.
func pattern(b string, n int) api.Bits { return api.Bits(strings.Repeat(b, n/len(b)+1)[:n]) }

// ratio is a small ratio top/bottom, in lowest terms.
type ratio struct{ top, bottom int }

func (r ratio) text() api.Num { return must(rat.Make(rat.Int(r.top), rat.Int(r.bottom))) }

// ratios returns all ratios with denominators up to a limit.
func ratios(limit int) []ratio {
	l := []ratio{{1, 1}}
	for bottom := 2; bottom <= limit; bottom++ {
		for top := 1; top < bottom; top++ {
			if rat.Check(api.Num(strconv.Itoa(top)+"/"+strconv.Itoa(bottom))) == api.OK {
				l = append(l, ratio{top, bottom})
			}
		}
	}
	return l
}

// power multiplies x n times.
func power(x, n int) int {
	p := 1
	for range n {
		p *= x
	}
	return p
}

// weights returns the weights of the values from -bound to bound, which are small.
func (r ratio) weights(bound int) []int {
	var l []int
	for k := -bound; k <= bound; k++ {
		l = append(l, power(r.top, k*k)*power(r.bottom, bound*bound-k*k))
	}
	return l
}

// draw draws as the terms say: for every prefix, from the shortest one on, it looks for a value whose part of the unit interval contains the cell.
func (r ratio) draw(bound int, b api.Bits) api.Draw {
	weights := r.weights(bound)
	total := 0
	for _, w := range weights {
		total += w
	}
	for number, used := 0, 0; ; used++ {
		before := 0
		for i, w := range weights {
			// The cell reaches from number/2^used to (number+1)/2^used.
			if before<<used <= number*total && (number+1)*total <= (before+w)<<used {
				return decided(i-bound, used)
			}
			before += w
		}
		if used == len(b) {
			return late(used)
		}
		number = 2*number + int(b[used]-'0')
	}
}

// masses returns the probabilities of the values from -bound to bound, for any ratio: powers of the ratio, divided by their sum.
func masses(q api.Num, bound int) []api.Num {
	sum := api.Num("0")
	var l []api.Num
	for k := -bound; k <= bound; k++ {
		p := must(rat.Pow(q, k*k))
		l, sum = append(l, p), must(rat.Add(sum, p))
	}
	for i := range l {
		l[i] = must(rat.Div(l[i], sum))
	}
	return l
}

// borders returns the places of the unit interval where the parts of the values from -bound to bound begin, and 1.
func borders(q api.Num, bound int) []api.Num {
	l := []api.Num{"0"}
	for i, p := range masses(q, bound) {
		l = append(l, must(rat.Add(l[i], p)))
	}
	return l
}

// outcome says in whose part the cell of a bit string is, and whether it is in one part.
func outcome(borders []api.Num, b api.Bits) (value int, done bool) {
	low, width, _ := bits.Cell(b)
	high := must(rat.Add(low, width))
	for i, border := range borders[1:] {
		if must(rat.Cmp(borders[i], low)) <= 0 && must(rat.Cmp(high, border)) <= 0 {
			return i - len(borders)/2 + 1, true
		}
	}
	return 0, false
}

// law returns the distribution for n bits: as many bit strings lead to a value as there are multiples of 1/2^n that begin a cell within its part.
func law(q api.Num, bound, n int) api.Dist {
	all := must(rat.Pow("2", n))
	places := borders(q, bound)
	d := map[string]api.Num{}
	rest := api.Num("1")
	for i, border := range places[1:] {
		first := must(rat.Ceil(must(rat.Mul(places[i], all))))
		end := must(rat.Floor(must(rat.Mul(border, all))))
		p := must(rat.Div(must(rat.Max("0", must(rat.Sub(end, first)))), all))
		d[strconv.Itoa(i-bound)] = p
		rest = must(rat.Sub(rest, p))
	}
	d["late"] = rest
	return distribution(d)
}

// counted returns the distribution of the results of draws with all bit strings of n bits.
func counted(n int, draw func(b api.Bits) api.Draw) api.Dist {
	count := map[string]int{}
	for _, b := range must(bits.All(n)) {
		key := "late"
		if x := draw(b); x.Done {
			key = strconv.Itoa(x.Value)
		}
		count[key]++
	}
	d := map[string]api.Num{}
	for key, many := range count {
		d[key] = must(rat.Make(rat.Int(many), rat.Int(1<<n)))
	}
	return distribution(d)
}

// distribution returns probabilities in the order of their keys, without those that are 0.
func distribution(probabilities map[string]api.Num) api.Dist {
	var d api.Dist
	for key, p := range probabilities {
		if p != "0" {
			d = append(d, api.Mass{Key: key, P: p})
		}
	}
	sort.Slice(d, func(i, j int) bool { return d[i].Key < d[j].Key })
	return d
}

// probabilityOf returns the probability of a key.
func probabilityOf(d api.Dist, key string) api.Num {
	for _, m := range d {
		if m.Key == key {
			return m.P
		}
	}
	return "0"
}

// model is a bell.
type model struct {
	q     api.Num
	bound int
}

// small returns bells with small ratios, near 0, near 1 and between them, and all bounds.
func small() []model {
	var l []model
	for bound := range api.MaxBell + 1 {
		for _, q := range []api.Num{"1", "1/2", "2/3", "1/1000", "999/1000", "31/100"} {
			l = append(l, model{q, bound})
		}
	}
	return l
}

// great returns bells whose weights are long, with ratios near 0 and near 1.
func great() []model {
	return []model{
		{"1/" + repeated("9", 4000), 0}, {repeated("9", 3999) + "8/" + repeated("9", 4000), 0},
		{"1/" + repeated("9", 3800), 1}, {repeated("9", 3799) + "8/" + repeated("9", 3800), 1}, {"7/1" + repeated("0", 3799), 1},
		{"1/" + repeated("9", 950), 2}, {repeated("9", 949) + "8/" + repeated("9", 950), 2}, {repeated("3", 949) + "2/" + repeated("9", 950), 2},
		{"1/" + repeated("9", 422), 3}, {"1/1" + repeated("0", 46), 9}, {repeated("9", 46) + "/1" + repeated("0", 46), 9},
		{"1/1" + repeated("0", 14), 16}, {repeated("9", 14) + "/1" + repeated("0", 14), 16}, {"333333333333331/500000000000000", 16},
	}
}
