package geom_test

import (
	"reflect"
	"slices"
	"strconv"
	"testing"

	"privhouse/api"
	"privhouse/bits"
	"privhouse/geom"
	"privhouse/rat"
)

func TestShortLaws(t *testing.T) { // P6.3
	for _, f := range kinds() {
		for _, a := range ratios(9) {
			for n := range 9 {
				want := counted(n, func(b api.Bits) api.Draw { return draw(f.series, a.toss, b) })
				expect(t, want)(f.law(a.text(), n))
				expect(t, probabilityOf(want, "late"))(f.late(a.text(), n))
			}
		}
	}
}

func TestLawCountsBitStrings(t *testing.T) { // P6.4
	for _, f := range kinds() {
		count := func(a api.Num, n int) {
			want := counted(n, func(b api.Bits) api.Draw { return must(f.draw(a, b)) })
			expect(t, want)(f.law(a, n))
			expect(t, probabilityOf(want, "late"))(f.late(a, n))
		}
		for _, a := range several() {
			count(a, 0)
			count(a, 5)
			if len(a) < 20 {
				count(a, 8)
			}
		}
		for _, a := range []api.Num{"0", "1/2", "3/4", "1/3", "5/7", "1365/4096", "4095/4096"} {
			count(a, api.MaxEnum)
		}
	}
}

func TestLongLaws(t *testing.T) { // P6.3
	for _, f := range kinds() {
		for _, x := range []struct {
			a api.Num
			n int
		}{{"1/2", 32}, {"2/3", 32}, {"15/16", 32}, {"1/1000", 32}, {"12345678901234567890/98765432109876543211", 32}, {"1/3", 31}, {"3/7", 25}, {longest()[3], 32}, {longest()[6], 17}} {
			want := law(f.series, x.a, x.n)
			expect(t, want)(f.law(x.a, x.n))
			expect(t, probabilityOf(want, "late"))(f.late(x.a, x.n))
		}
	}
}

// With the ratio 1/2 a coin is a bit.
func TestLawsOfOneHalf(t *testing.T) { // P6.3
	for n := range api.MaxBits + 1 {
		width := must(rat.Pow("1/2", n))
		expect(t, width)(geom.OneLate("1/2", n))
		expect(t, must(rat.Mul(rat.Int(n+1), width)))(geom.TwoLate("1/2", n))
	}
	for n := range api.MaxLaw + 1 {
		one, two := map[string]api.Num{"late": must(rat.Pow("1/2", n))}, map[string]api.Num{}
		add(two, "late", must(rat.Mul(rat.Int(n+1), one["late"])))
		for i := range n {
			add(one, strconv.Itoa(i), must(rat.Pow("1/2", i+1)))
			for j := range n - i - 1 {
				add(two, strconv.Itoa(i-j), must(rat.Pow("1/2", i+j+2)))
			}
		}
		expect(t, distribution(one))(geom.OneLaw("1/2", n))
		expect(t, distribution(two))(geom.TwoLaw("1/2", n))
	}
}

// latesOf returns the probabilities that so many series are late, with each number of bits up to n.
func latesOf(series int, a api.Num, n int) []api.Num {
	one, zero := ends(a, "1", n), ends(a, "0", n)
	// reached says how probable it is that a coin begins after so many bits.
	reached := []api.Num{"1"}
	for used := 1; used <= n; used++ {
		sum := api.Num("0")
		for i := 1; i <= used; i++ {
			if one[i] != "0" {
				sum = must(rat.Add(sum, must(rat.Mul(one[i], reached[used-i]))))
			}
		}
		reached = append(reached, sum)
	}
	ended := then(reached, zero)
	if series == 2 {
		ended = then(ended, ended)
	}
	var lates []api.Num
	rest := api.Num("1")
	for _, p := range ended {
		rest = must(rat.Sub(rest, p))
		lates = append(lates, rest)
	}
	return lates
}

func TestLongLates(t *testing.T) { // P6.3
	for _, f := range kinds() {
		for _, x := range []struct {
			a api.Num
			n int
		}{{"2/3", 256}, {longest()[3], 200}, {"1023/1024", 90}, {"1/3", 90}, {"4/5", 70}, {longest()[5], 70}, {must(rat.Pow("2/3", 50)), 100}} {
			for n, want := range latesOf(f.series, x.a, x.n) {
				if n%9 == 0 || n > x.n-3 || n < 20 {
					expect(t, want)(f.late(x.a, n))
				}
			}
		}
	}
}

func TestLawIsBelowMass(t *testing.T) { // P6.5
	for _, f := range kinds() {
		for _, a := range several() {
			for _, n := range []int{1, 4, api.MaxLaw} {
				if n == api.MaxLaw && len(a) > 100 {
					continue
				}
				for _, m := range must(f.law(a, n)) {
					if m.Key == "late" {
						continue
					}
					k, err := strconv.Atoi(m.Key)
					if err != nil || must(rat.Cmp(m.P, must(f.mass(a, k)))) > 0 {
						t.Error(f.name, a, n, m)
					}
				}
			}
		}
	}
}

func TestTwoSidedLawIsSymmetric(t *testing.T) { // P6.5
	for _, a := range several() {
		for _, n := range []int{1, 2, 3, 4, 7, 12, 31, api.MaxLaw} {
			law := must(geom.TwoLaw(a, n))
			for _, m := range law {
				if k, err := strconv.Atoi(m.Key); err == nil && probabilityOf(law, strconv.Itoa(-k)) != m.P {
					t.Error(a, n, m)
				}
			}
		}
	}
}

func TestMoreBitsChangeNoDecision(t *testing.T) { // P6.6
	tails := append(must(bits.All(1)), must(bits.All(3))...)
	tails = append(tails, pattern("0", 240), pattern("1", 240), pattern("01", 240))
	for _, f := range kinds() {
		for _, a := range several() {
			for _, b := range append(must(bits.All(6)), pattern("011", 16), pattern("1", 16)) {
				before := must(f.draw(a, b))
				if !before.Done {
					continue
				}
				for _, tail := range tails {
					expect(t, before)(f.draw(a, b+tail))
				}
			}
		}
	}
}

func TestShortestPrefixDecides(t *testing.T) { // P6.1, P6.6
	for _, f := range kinds() {
		for _, a := range several() {
			for _, b := range must(bits.All(7)) {
				whole := must(f.draw(a, b))
				for used := range len(b) + 1 {
					want := late(used)
					if whole.Done && used >= whole.Used {
						want = whole
					}
					expect(t, want)(f.draw(a, b[:used]))
				}
			}
		}
	}
}

func TestMoreBitsAreNotLater(t *testing.T) { // P6.6
	for _, f := range kinds() {
		for _, a := range several() {
			before := api.Num("1")
			for _, n := range []int{0, 1, 2, 3, 4, 5, 6, 20, 21, 64, 255, api.MaxBits} {
				now := must(f.late(a, n))
				if must(rat.Cmp(now, before)) > 0 || must(rat.Sign(now)) < 0 {
					t.Error(f.name, a, n, now, before)
				}
				before = now
			}
		}
	}
}

func TestFormOfLaws(t *testing.T) { // P6.3
	for _, f := range kinds() {
		for _, a := range several() {
			for _, n := range []int{0, 1, 2, 5, 20, api.MaxLaw} {
				sum, before := api.Num("0"), ""
				for _, m := range must(f.law(a, n)) {
					if m.Key <= before || must(rat.Sign(m.P)) <= 0 {
						t.Error(f.name, a, n, m, "after", before)
					}
					sum, before = must(rat.Add(sum, m.P)), m.Key
				}
				if sum != "1" {
					t.Error(f.name, a, n, sum)
				}
			}
		}
	}
	var keys []string
	for _, m := range must(geom.TwoLaw("1/2", 13)) {
		keys = append(keys, m.Key)
	}
	want := []string{"-1", "-10", "-11", "-2", "-3", "-4", "-5", "-6", "-7", "-8", "-9", "0", "1", "10", "11", "2", "3", "4", "5", "6", "7", "8", "9", "late"}
	if !slices.Equal(keys, want) {
		t.Error(keys)
	}
}

func TestSameCallsSameResults(t *testing.T) { // P2, R4
	for _, f := range kinds() {
		for _, a := range several() {
			first := must(f.law(a, 5))
			kept := slices.Clone(first)
			for i := range first {
				first[i] = api.Mass{Key: "spoiled", P: "7"}
			}
			if again := must(f.law(a, 5)); !reflect.DeepEqual(again, kept) {
				t.Error(f.name, a, again, kept)
			}
			expect(t, must(f.draw(a, "0110")))(f.draw(a, "0110"))
			expect(t, must(f.late(a, 5)))(f.late(a, 5))
			expect(t, must(f.mass(a, 1)))(f.mass(a, 1))
			expect(t, must(f.tail(a, 1)))(f.tail(a, 1))
		}
	}
}
