package coin_test

import (
	"reflect"
	"strings"
	"testing"

	"privhouse/api"
	"privhouse/bits"
	"privhouse/coin"
	"privhouse/rat"
)

// probabilityOf returns the probability of a key.
func probabilityOf(d api.Dist, key string) api.Num {
	for _, m := range d {
		if m.Key == key {
			return m.P
		}
	}
	return "0"
}

// all returns small and long probabilities.
func all() []api.Num {
	l := several()
	for _, p := range shares(12) {
		l = append(l, p.text())
	}
	return l
}

func TestMoreBitsChangeNoDecision(t *testing.T) { // P4.3
	tails := append(must(bits.All(1)), must(bits.All(3))...)
	tails = append(tails, api.Bits(repeated("0", 240)), api.Bits(repeated("1", 240)), api.Bits(repeated("01", 120)))
	for _, p := range all() {
		for n := range 6 {
			for _, b := range must(bits.All(n)) {
				draw := must(coin.Draw(p, b))
				if !draw.Done {
					continue
				}
				for _, tail := range tails {
					expect(t, draw)(coin.Draw(p, b+tail))
				}
			}
		}
	}
}

func TestShortestPrefixDecides(t *testing.T) { // P4.1, P4.3
	for _, p := range all() {
		for _, b := range must(bits.All(6)) {
			draw := must(coin.Draw(p, b))
			for used := range len(b) + 1 {
				want := late(used)
				if draw.Done && used >= draw.Used {
					want = draw
				}
				expect(t, want)(coin.Draw(p, b[:used]))
			}
		}
	}
}

func TestLawCountsBitStrings(t *testing.T) { // P4.4
	for _, p := range all() {
		for n := range 9 {
			countBitStrings(t, p, n)
		}
	}
	for _, p := range []api.Num{"0", "1", "1/2", "1/3", "1365/4096", "4095/4096", "1/5000"} {
		countBitStrings(t, p, api.MaxEnum)
	}
}

// countBitStrings compares a law, and the probability of being late, with the results of all draws.
func countBitStrings(t *testing.T, p api.Num, n int) {
	t.Helper()
	count := map[string]int{}
	for _, b := range must(bits.All(n)) {
		count[keyOf(must(coin.Draw(p, b)))]++
	}
	want := distribution(count, n)
	expect(t, want)(coin.Law(p, n))
	expect(t, probabilityOf(want, "late"))(coin.Late(p, n))
}

func TestAtMostOneBitStringIsLate(t *testing.T) { // P4.5
	for _, p := range all() {
		for _, n := range []int{0, 1, 2, 3, 7, 8, 100, 255, 256} {
			width := must(rat.Pow("1/2", n))
			want := width
			if multiple := must(rat.Div(p, width)); !strings.Contains(string(multiple), "/") {
				want = "0"
			}
			expect(t, want)(coin.Late(p, n))
			missing := must(rat.Sub(p, probabilityOf(must(coin.Law(p, n)), "1")))
			if must(rat.Sign(missing)) < 0 || must(rat.Cmp(missing, width)) >= 0 {
				t.Error(p, n, missing)
			}
		}
	}
}

func TestFormOfLaws(t *testing.T) { // P4.2
	for _, p := range all() {
		for _, n := range []int{0, 1, 2, 5, 8, 64, 256} {
			sum, before := api.Num("0"), ""
			for _, m := range must(coin.Law(p, n)) {
				if m.Key <= before || must(rat.Sign(m.P)) <= 0 {
					t.Error(p, n, m)
				}
				sum, before = must(rat.Add(sum, m.P)), m.Key
			}
			if sum != "1" {
				t.Error(p, n, sum)
			}
		}
	}
}

func TestSameCallsSameResults(t *testing.T) { // P2, R4
	for _, p := range all() {
		first := must(coin.Law(p, 3))
		kept := append(api.Dist(nil), first...)
		for i := range first {
			first[i] = api.Mass{Key: "spoiled", P: "7"}
		}
		if again := must(coin.Law(p, 3)); !reflect.DeepEqual(again, kept) {
			t.Error(p, again, kept)
		}
		expect(t, must(coin.Draw(p, "0110")))(coin.Draw(p, "0110"))
		expect(t, must(coin.Late(p, 3)))(coin.Late(p, 3))
	}
}
