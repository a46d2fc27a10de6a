package geom_test

import (
	"reflect"
	"sort"
	"strconv"
	"strings"
	"testing"

	"privhouse/api"
	"privhouse/bits"
	"privhouse/coin"
	"privhouse/geom"
	"privhouse/rat"
)

// kind has the functions of one kind of draws; series is the number of series that such a draw consists of.
type kind struct {
	name       string
	series     int
	draw       func(a api.Num, b api.Bits) (api.Draw, api.Errno)
	mass, tail func(a api.Num, k int) (api.Num, api.Errno)
	late       func(a api.Num, n int) (api.Num, api.Errno)
	law        func(a api.Num, n int) (api.Dist, api.Errno)
}

func kinds() []kind {
	return []kind{
		{"one", 1, geom.One, geom.OneMass, geom.OneTail, geom.OneLate, geom.OneLaw},
		{"two", 2, geom.Two, geom.TwoMass, geom.TwoTail, geom.TwoLate, geom.TwoLaw},
	}
}

// must returns what a call has returned, which has no error.
func must[T any](x T, e api.Errno) T {
	if e != api.OK {
		panic(e)
	}
	return x
}

// expect checks that a call has succeeded with a value.
func expect[T any](t *testing.T, want T) func(x T, e api.Errno) {
	return func(x T, e api.Errno) {
		t.Helper()
		if e != api.OK || !reflect.DeepEqual(x, want) {
			t.Error(x, e, "instead of", want)
		}
	}
}

// refuse checks that a call has returned an error, and nothing else.
func refuse[T any](t *testing.T, want api.Errno) func(x T, e api.Errno) {
	return func(x T, e api.Errno) {
		t.Helper()
		if e != want || !reflect.ValueOf(x).IsZero() {
			t.Error(x, e, "instead of", want)
		}
	}
}

// refused checks that all functions return an error for a text that is no ratio, whatever the other argument is.
func refused(t *testing.T, a api.Num, b api.Bits, n int, want api.Errno) {
	t.Helper()
	for _, f := range kinds() {
		refuse[api.Draw](t, want)(f.draw(a, b))
		refuse[api.Num](t, want)(f.mass(a, n))
		refuse[api.Num](t, want)(f.tail(a, n))
		refuse[api.Num](t, want)(f.late(a, n))
		refuse[api.Dist](t, want)(f.law(a, n))
	}
}

// decided and late are the results of draws.
func decided(value, used int) api.Draw { return api.Draw{Done: true, Value: value, Used: used} }
func late(used int) api.Draw           { return api.Draw{Used: used} }

// repeated returns a text so many times.
func repeated(text string, n int) api.Num { return api.Num(strings.Repeat(text, n)) }

// pattern returns n bits that repeat a pattern.
func pattern(b string, n int) api.Bits { return api.Bits(strings.Repeat(b, n/len(b)+1)[:n]) }

// ratio is a small ratio top/bottom, in lowest terms.
type ratio struct{ top, bottom int }

func (r ratio) text() api.Num {
	return must(rat.Make(rat.Int(r.top), rat.Int(r.bottom)))
}

// ratios returns all ratios with denominators up to a limit.
func ratios(limit int) []ratio {
	l := []ratio{{0, 1}}
	for bottom := 2; bottom <= limit; bottom++ {
		for top := 1; top < bottom; top++ {
			if rat.Check(api.Num(strconv.Itoa(top)+"/"+strconv.Itoa(bottom))) == api.OK {
				l = append(l, ratio{top, bottom})
			}
		}
	}
	return l
}

// toss tosses a coin as layer 4 says: it looks at the cell of every prefix, from the shortest one on.
func (r ratio) toss(b api.Bits) api.Draw {
	for k, used := 0, 0; ; used++ {
		// The cell reaches from k/2^used to (k+1)/2^used.
		switch {
		case k*r.bottom >= r.top<<used:
			return decided(0, used)
		case (k+1)*r.bottom <= r.top<<used:
			return decided(1, used)
		case used == len(b):
			return late(used)
		}
		k = 2*k + int(b[used]-'0')
	}
}

// draw draws as the terms say, with coins that are tossed by a function.
func draw(series int, toss func(b api.Bits) api.Draw, b api.Bits) api.Draw {
	used, values := 0, [3]int{}
	for i := range series {
		for {
			x := toss(b[used:])
			used += x.Used
			if !x.Done {
				return late(len(b))
			}
			if x.Value == 0 {
				break
			}
			values[i]++
		}
	}
	return decided(values[0]-values[1], used)
}

// keyOf returns the key of a result in a distribution.
func keyOf(d api.Draw) string {
	if d.Done {
		return strconv.Itoa(d.Value)
	}
	return "late"
}

// counted returns the distribution of the results of draws with all bit strings of n bits.
func counted(n int, draw func(b api.Bits) api.Draw) api.Dist {
	count := map[string]api.Num{}
	for _, b := range must(bits.All(n)) {
		add(count, keyOf(draw(b)), must(rat.Make("1", rat.Int(1<<n))))
	}
	return distribution(count)
}

// add adds to the probability of a key.
func add(d map[string]api.Num, key string, p api.Num) {
	if before, ok := d[key]; ok {
		p = must(rat.Add(before, p))
	}
	d[key] = p
}

// distribution returns probabilities in the order of their keys, without those that are 0.
func distribution(probabilities map[string]api.Num) api.Dist {
	var d api.Dist
	for key, p := range probabilities {
		if p != "0" {
			d = append(d, api.Mass{Key: key, P: p})
		}
	}
	sort.Slice(d, func(i, j int) bool { return d[i].Key < d[j].Key })
	return d
}

// probabilityOf returns the probability of a key.
func probabilityOf(d api.Dist, key string) api.Num {
	for _, m := range d {
		if m.Key == key {
			return m.P
		}
	}
	return "0"
}

// ends returns the probabilities that a coin decides for a value with exactly so many bits, from 0 to n.
func ends(a api.Num, value string, n int) []api.Num {
	var l []api.Num
	before := api.Num("0")
	for used := range n + 1 {
		p := probabilityOf(must(coin.Law(a, used)), value)
		l = append(l, must(rat.Sub(p, before)))
		before = p
	}
	return l
}

// then returns the probabilities of the numbers of bits that two things use, one after the other.
func then(first, second []api.Num) []api.Num {
	sums := make([]api.Num, len(first))
	for used := range sums {
		sums[used] = "0"
		for i := range used + 1 {
			if first[i] != "0" && second[used-i] != "0" {
				sums[used] = must(rat.Add(sums[used], must(rat.Mul(first[i], second[used-i]))))
			}
		}
	}
	return sums
}

// values returns the probabilities that a series with n bits has a value and uses so many bits: by its value, then by the number of bits.
func values(a api.Num, n int) [][]api.Num {
	one, zero := ends(a, "1", n), ends(a, "0", n)
	var l [][]api.Num
	before := make([]api.Num, n+1)
	for used := range before {
		before[used] = "0"
	}
	before[0] = "1"
	for range n + 1 {
		l = append(l, then(before, zero))
		before = then(before, one)
	}
	return l
}

// law returns the distribution for n bits by adding up the probabilities of all pairs of values.
func law(series int, a api.Num, n int) api.Dist {
	d := map[string]api.Num{"late": "1"}
	take := func(value int, used []api.Num) {
		for _, p := range used {
			if p != "0" {
				add(d, strconv.Itoa(value), p)
				d["late"] = must(rat.Sub(d["late"], p))
			}
		}
	}
	l := values(a, n)
	for i, first := range l {
		if series == 1 {
			take(i, first)
			continue
		}
		for j, second := range l {
			take(i-j, then(first, second))
		}
	}
	return distribution(d)
}

// longest returns ratios with as many digits as are allowed.
func longest() []api.Num {
	const most = api.MaxParam
	ten := "1" + repeated("0", most-1)
	return []api.Num{
		"1/" + ten, "1/" + repeated("9", most), repeated("9", most-1) + "/" + ten, "7" + repeated("0", most-2) + "1/" + repeated("9", most),
		repeated("9", most-1) + "8/" + repeated("9", most), repeated("3", most-1) + "2/" + repeated("9", most), "6" + repeated("0", most-2) + "7/" + repeated("9", most),
	}
}

// several returns ratios of all kinds.
func several() []api.Num {
	l := append(longest(), "12345678901234567890/98765432109876543211", "999999/1000000", "1/1000000", "1023/1024", must(rat.Pow("1/2", 300)), must(rat.Pow("2/3", 256)))
	for _, r := range ratios(7) {
		l = append(l, r.text())
	}
	for _, n := range []int{255, 256, 257} {
		l = append(l, must(rat.Pow("1/2", n)), must(rat.Sub("1", must(rat.Pow("1/2", n)))))
	}
	return l
}
