package pick_test

import (
	"reflect"
	"sort"
	"strconv"
	"strings"
	"testing"

	"privhouse/api"
	"privhouse/bits"
	"privhouse/pick"
	"privhouse/rat"
)

// must returns what a call has returned, which has no error.
func must[T any](x T, e api.Errno) T {
	if e != api.OK {
		panic(e)
	}
	return x
}

// expect checks that a call has succeeded with a value.
func expect[T any](t *testing.T, want T) func(x T, e api.Errno) {
	return func(x T, e api.Errno) {
		t.Helper()
		if e != api.OK || !reflect.DeepEqual(x, want) {
			t.Error(x, e, "instead of", want)
		}
	}
}

// refuse checks that a call has returned an error, and nothing else.
func refuse[T any](t *testing.T, want api.Errno) func(x T, e api.Errno) {
	return func(x T, e api.Errno) {
		t.Helper()
		if e != want || !reflect.ValueOf(x).IsZero() {
			t.Error(x, e, "instead of", want)
		}
	}
}

// refused checks that all functions return an error for weights that are none.
func refused(t *testing.T, weights []api.Num, b api.Bits, n int, want api.Errno) {
	t.Helper()
	refuse[api.Draw](t, want)(pick.Draw(weights, b))
	refuse[api.Num](t, want)(pick.Late(weights, n))
	refuse[api.Dist](t, want)(pick.Law(weights, n))
	refuse[api.Dist](t, want)(pick.Exact(weights))
}

// decided and late are the results of draws.
func decided(value, used int) api.Draw { return api.Draw{Done: true, Value: value, Used: used} }
func late(used int) api.Draw           { return api.Draw{Used: used} }

// list returns weights that are written with spaces between them.
func list(text string) []api.Num {
	var l []api.Num
	for _, word := range strings.Fields(text) {
		l = append(l, api.Num(word))
	}
	return l
}

// numbers returns small weights as numbers.
func numbers(weights []int) []api.Num {
	var l []api.Num
	for _, w := range weights {
		l = append(l, rat.Int(w))
	}
	return l
}

// repeated returns so many equal weights, digits a number of so many digits 9.
func repeated(w api.Num, n int) []api.Num {
	var l []api.Num
	for range n {
		l = append(l, w)
	}
	return l
}
func digits(n int) api.Num { return api.Num(strings.Repeat("9", n)) }

// alternating returns n bits.
func alternating(n int) api.Bits { return api.Bits(strings.Repeat("01", n/2+1)[:n]) }

// draw draws with small weights as the terms say: for every prefix, from the shortest one on, it looks for an index whose part contains the cell.
func draw(weights []int, b api.Bits) api.Draw {
	total := 0
	for _, w := range weights {
		total += w
	}
	for k, used := 0, 0; ; used++ {
		before := 0
		for i, w := range weights {
			// The cell reaches from k/2^used to (k+1)/2^used.
			if before<<used <= k*total && (k+1)*total <= (before+w)<<used {
				return decided(i, used)
			}
			before += w
		}
		if used == len(b) {
			return late(used)
		}
		k = 2*k + int(b[used]-'0')
	}
}

// keyOf returns the key of a result in a distribution.
func keyOf(d api.Draw) string {
	if d.Done {
		return strconv.Itoa(d.Value)
	}
	return "late"
}

// counted returns the distribution of the results of draws with all bit strings of n bits.
func counted(n int, draw func(b api.Bits) api.Draw) api.Dist {
	count := map[string]int{}
	for _, b := range must(bits.All(n)) {
		count[keyOf(draw(b))]++
	}
	var d api.Dist
	for key, many := range count {
		d = append(d, api.Mass{Key: key, P: must(rat.Make(rat.Int(many), rat.Int(1<<n)))})
	}
	sort.Slice(d, func(i, j int) bool { return d[i].Key < d[j].Key })
	return d
}

// probabilityOf returns the probability of a key.
func probabilityOf(d api.Dist, key string) api.Num {
	for _, m := range d {
		if m.Key == key {
			return m.P
		}
	}
	return "0"
}

// borders returns the places of the unit interval where the parts of weights of any size begin, and 1.
func borders(weights []api.Num) []api.Num {
	sums := []api.Num{"0"}
	for i, w := range weights {
		sums = append(sums, must(rat.Add(sums[i], w)))
	}
	var l []api.Num
	for _, sum := range sums {
		l = append(l, must(rat.Div(sum, sums[len(weights)])))
	}
	return l
}

// outcome says in which part the cell of a bit string is, or -1 if it is in several ones.
func outcome(borders []api.Num, b api.Bits) int {
	low, width, e := bits.Cell(b)
	if e != api.OK {
		panic(e)
	}
	high := must(rat.Add(low, width))
	for i, border := range borders[1:] {
		if must(rat.Cmp(borders[i], low)) <= 0 && must(rat.Cmp(high, border)) <= 0 {
			return i
		}
	}
	return -1
}

// law returns the distribution for n bits: as many bit strings lead to an index as there are multiples of 1/2^n that begin a cell within its part.
func law(weights []api.Num, n int) api.Dist {
	all := must(rat.Pow("2", n))
	places := borders(weights)
	var d api.Dist
	rest := api.Num("1")
	for i, border := range places[1:] {
		first := must(rat.Ceil(must(rat.Mul(places[i], all))))
		end := must(rat.Floor(must(rat.Mul(border, all))))
		many := must(rat.Max("0", must(rat.Sub(end, first))))
		p := must(rat.Div(many, all))
		rest = must(rat.Sub(rest, p))
		d = append(d, api.Mass{Key: strconv.Itoa(i), P: p})
	}
	return tidy(append(d, api.Mass{Key: "late", P: rest}))
}

// tidy sorts a distribution and drops what is impossible.
func tidy(d api.Dist) api.Dist {
	var l api.Dist
	for _, m := range d {
		if m.P != "0" {
			l = append(l, m)
		}
	}
	sort.Slice(l, func(i, j int) bool { return l[i].Key < l[j].Key })
	return l
}

// smallWeights returns lists of small weights, not all 0: all of up to three elements, and longer ones.
func smallWeights() [][]int {
	var l [][]int
	for a := range 6 {
		if a > 0 {
			l = append(l, []int{a})
		}
		for b := range 6 {
			if a+b > 0 {
				l = append(l, []int{a, b})
			}
			for c := range 6 {
				if a+b+c > 0 {
					l = append(l, []int{a, b, c})
				}
			}
		}
	}
	return append(l, longWeights()...)
}

// longWeights returns some lists of many small weights.
func longWeights() [][]int {
	var growing, sparse, equal []int
	for i := range api.MaxDomain {
		growing = append(growing, i)
		sparse = append(sparse, (i%5)*(i%3))
		equal = append(equal, 1)
	}
	return [][]int{
		growing, sparse, equal, equal[:63], equal[:12], growing[:11],
		{0, 0, 0, 1, 0}, {0, 3, 0, 5, 0, 0, 7, 0}, {1, 1, 1, 1}, {1, 0, 1, 0, 1}, {1, 100, 1}, {97, 1, 1, 1}, {1, 1, 1, 97}, {50, 0, 0, 50}, {13, 8, 5, 3, 2, 1, 1, 0},
	}
}

// greatWeights returns lists of long weights.
func greatWeights() [][]api.Num {
	most := digits(api.MaxWeight)
	tiny := append(repeated("1", 31), most)
	tiny = append(tiny, repeated("1", 32)...)
	third := api.Num(strings.Repeat("3", api.MaxWeight))
	return [][]api.Num{
		{most}, {most, most}, {most, most, most}, {"1", most}, {most, "1"}, {"0", most, "0", "2", "0"}, {third, most, "1" + api.Num(strings.Repeat("0", api.MaxWeight-1))},
		tiny, repeated(most, api.MaxDomain), {must(rat.Pow("2", 256)), "1"}, {must(rat.Pow("2", 255)), must(rat.Pow("2", 255))}, {must(rat.Sub(must(rat.Pow("2", 256)), "1")), "1"},
		{must(rat.Sub(must(rat.Pow("2", 257)), "1")), "1"}, {"12345678901234567890", "98765432109876543210", "5"},
	}
}
