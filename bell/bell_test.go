package bell_test

import (
	"math"
	"slices"
	"strconv"
	"strings"
	"testing"

	"privhouse/api"
	"privhouse/bell"
	"privhouse/bits"
	"privhouse/nat"
	"privhouse/rat"
)

func TestExamples(t *testing.T) { // P7.1, P7.2
	expect(t, []api.Num{"1", "8", "16", "8", "1"})(bell.Weights("1/2", 2))
	expect(t, []api.Num{"1", "1", "1"})(bell.Weights("1", 1))
	expect(t, []api.Num{"1"})(bell.Weights("2/3", 0))
	expect(t, decided(-1, 2))(bell.Draw("1/2", 1, "00"))
	expect(t, decided(0, 2))(bell.Draw("1/2", 1, "01"))
	expect(t, decided(0, 0))(bell.Draw("1/2", 0, ""))
	expect(t, late(1))(bell.Draw("1/2", 1, "1"))
	expect(t, api.Num("8/17"))(bell.Mass("1/2", 2, 0))
	expect(t, api.Num("1/34"))(bell.Mass("1/2", 2, 2))
	refuse[api.Num](t, api.ErrRange)(bell.Mass("1/2", 2, 3))
	quarters := api.Dist{{Key: "-1", P: "1/4"}, {Key: "0", P: "1/2"}, {Key: "1", P: "1/4"}}
	expect(t, quarters)(bell.Exact("1/2", 1))
	expect(t, quarters)(bell.Law("1/2", 1, 2))
	expect(t, api.Num("1/2"))(bell.Late("1/3", 1, 2))
	refuse[api.Draw](t, api.ErrRange)(bell.Draw("0", 1, "0"))
	refuse[api.Draw](t, api.ErrRange)(bell.Draw("3/2", 1, "0"))
	refuse[api.Draw](t, api.ErrRange)(bell.Draw("1/2", 17, "0"))
	refuse[[]api.Num](t, api.ErrOver)(bell.Weights("1/1"+repeated("0", 15), 16))
}

func TestSmallWeights(t *testing.T) { // P7.1
	for _, r := range ratios(9) {
		for bound := range 5 {
			var want []api.Num
			for _, w := range r.weights(bound) {
				want = append(want, rat.Int(w))
			}
			expect(t, want)(bell.Weights(r.text(), bound))
		}
	}
}

func TestAllWeights(t *testing.T) { // P7.1
	for _, m := range append(small(), great()...) {
		top, bottom, _ := rat.Parts(m.q)
		var want []api.Num
		for k := -m.bound; k <= m.bound; k++ {
			one, other := must(nat.Pow(top, k*k)), must(nat.Pow(bottom, m.bound*m.bound-k*k))
			want = append(want, must(nat.Mul(one, other)))
		}
		expect(t, want)(bell.Weights(m.q, m.bound))
	}
}

func TestShortDraws(t *testing.T) { // P7.1
	for _, r := range ratios(6) {
		for bound := range 4 {
			for n := range 8 {
				for _, b := range must(bits.All(n)) {
					expect(t, r.draw(bound, b))(bell.Draw(r.text(), bound, b))
				}
			}
		}
	}
	// With all values alike there is room for the greatest bound.
	for bound := range api.MaxBell + 1 {
		for _, b := range must(bits.All(9)) {
			expect(t, ratio{1, 1}.draw(bound, b))(bell.Draw("1", bound, b))
		}
	}
}

// prefixes checks a draw with each prefix of a bit string: it is late until the cell is in one part, and from then on the same.
func prefixes(t *testing.T, m model, b api.Bits) {
	t.Helper()
	places := borders(m.q, m.bound)
	want := late(0)
	for n := range len(b) + 1 {
		if !want.Done {
			want = late(n)
			if value, done := outcome(places, b[:n]); done {
				want = decided(value, n)
			}
		}
		expect(t, want)(bell.Draw(m.q, m.bound, b[:n]))
	}
}

// near returns bit strings of n bits whose cells are at a place of the unit interval: the one that contains it, and its neighbours.
func near(place api.Num, n int) []api.Bits {
	whole := must(rat.Floor(must(rat.Mul(place, must(rat.Pow("2", n))))))
	var l []api.Bits
	for _, k := range []api.Num{must(rat.Sub(whole, "1")), whole, must(rat.Add(whole, "1"))} {
		if b, e := bits.Word(k, n); e == api.OK {
			l = append(l, b)
		}
	}
	return l
}

func TestLongDraws(t *testing.T) { // P7.1
	for _, m := range []model{{"1/2", 2}, {"1/2", 16}, {"2/3", 5}, {"99/100", 4}, {"1/100", 3}, {"1", 16}, {"1", 1}} {
		places := borders(m.q, m.bound)
		for _, i := range []int{0, m.bound, m.bound + 1, len(places) - 1} {
			for _, b := range near(places[i], api.MaxBits) {
				prefixes(t, m, b)
			}
		}
		prefixes(t, m, pattern("01", api.MaxBits))
	}
	for _, m := range []model{{"1/1" + repeated("0", 300), 1}, {repeated("9", 100) + "/1" + repeated("0", 100), 2}, {"1/1" + repeated("0", 14), 4}} {
		for _, place := range borders(m.q, m.bound) {
			for _, n := range []int{1, 40, api.MaxBits} {
				for _, b := range near(place, n) {
					value, done := outcome(borders(m.q, m.bound), b)
					if d := must(bell.Draw(m.q, m.bound, b)); d.Done != done || d.Value != value || !done && d.Used != n {
						t.Error(len(m.q), m.bound, b, d, value, done)
					}
				}
			}
		}
	}
}

func TestValuesOnBothSides(t *testing.T) { // P7.1
	zeros, ones := pattern("0", api.MaxBits), pattern("1", api.MaxBits)
	for bound := 1; bound <= api.MaxBell; bound++ {
		for _, q := range []api.Num{"3/4", "9/10", "1"} {
			left, right := must(bell.Draw(q, bound, zeros)), must(bell.Draw(q, bound, ones))
			if !left.Done || left.Value != -bound || !right.Done || right.Value != bound || left.Used != right.Used {
				t.Error(q, bound, left, right)
			}
			used := left.Used
			expect(t, left)(bell.Draw(q, bound, zeros[:used]))
			expect(t, late(used-1))(bell.Draw(q, bound, zeros[:used-1]))
			expect(t, late(used-1))(bell.Draw(q, bound, ones[:used-1]))
		}
	}
	// The part of the last value is shorter than a cell of 256 bits.
	expect(t, late(api.MaxBits))(bell.Draw("1/2", api.MaxBell, zeros))
	expect(t, late(api.MaxBits))(bell.Draw("1/1"+repeated("0", 100), 1, zeros))
	expect(t, late(api.MaxBits))(bell.Draw("1/1"+repeated("0", 100), 1, ones))
	expect(t, decided(0, 2))(bell.Draw("1/1"+repeated("0", 100), 1, "01"+zeros[2:]))
}

func TestMasses(t *testing.T) { // P7.2
	for _, m := range append(small(), great()...) {
		var want api.Dist
		for i, p := range masses(m.q, m.bound) {
			want = append(want, api.Mass{Key: strconv.Itoa(i - m.bound), P: p})
			expect(t, p)(bell.Mass(m.q, m.bound, i-m.bound))
		}
		slices.SortFunc(want, func(x, y api.Mass) int { return strings.Compare(x.Key, y.Key) })
		expect(t, want)(bell.Exact(m.q, m.bound))
	}
}

// With a denominator of as many digits as are allowed, the mass of 0 is d/(d+2).
func TestLongestMasses(t *testing.T) { // P7.2
	d := repeated("9", api.MaxWeight)
	sum := must(nat.Add(d, "2"))
	zero, one := must(rat.Make(d, sum)), must(rat.Make("1", sum))
	expect(t, zero)(bell.Mass("1/"+d, 1, 0))
	expect(t, one)(bell.Mass("1/"+d, 1, -1))
	expect(t, one)(bell.Mass("1/"+d, 1, 1))
	expect(t, api.Dist{{Key: "-1", P: one}, {Key: "0", P: zero}, {Key: "1", P: one}})(bell.Exact("1/"+d, 1))
}

func TestLaws(t *testing.T) { // P7.2
	for _, m := range small() {
		for _, n := range []int{0, 1, 7, 64, api.MaxBits} {
			want := law(m.q, m.bound, n)
			expect(t, want)(bell.Law(m.q, m.bound, n))
			expect(t, probabilityOf(want, "late"))(bell.Late(m.q, m.bound, n))
		}
	}
	for _, m := range []model{{"1/" + repeated("9", 400), 1}, {repeated("9", 100) + "/1" + repeated("0", 100), 2}, {"1/1" + repeated("0", 14), 4}} {
		for _, n := range []int{0, 5, 100, api.MaxBits} {
			want := law(m.q, m.bound, n)
			expect(t, want)(bell.Law(m.q, m.bound, n))
			expect(t, probabilityOf(want, "late"))(bell.Late(m.q, m.bound, n))
		}
	}
}

func TestTextsThatAreNoRatios(t *testing.T) { // P7.1, P7.2
	for _, q := range []api.Num{
		"", "x", "-", "/", "1/", "/2", "-0", "00", "01", "01/2", "1/02", "0/1", "0/2", "1/0", "1/1", "2/1", "1/-2", "--1/2", "+1/2", "1/2/3", "0.5", "1e-1", " 1/2", "1/2 ", "1 /2", "1/2\n", "1\x00", "½", "١/2",
		"2/4", "3/3", "4/2", "-2/4", "10/100", repeated("3", 4000) + "/" + repeated("9", 4000), repeated("9", 5000) + "/x",
	} {
		for _, bound := range []int{0, 1, 16, 17, -1} {
			refused(t, q, bound, "01", 0, api.ErrForm)
		}
	}
	for _, q := range []api.Num{"1/1" + repeated("0", 4000), repeated("7", 4001), "-" + repeated("7", 4001), repeated("9", 4001) + "/1" + repeated("0", 4001), "2/1" + repeated("0", 4000)} {
		for _, bound := range []int{0, 1, 16, 17, -1} {
			refused(t, q, bound, "01", 0, api.ErrOver)
		}
	}
}

func TestRatiosOutOfRange(t *testing.T) { // P7.1, P7.2
	for _, q := range []api.Num{
		"0", "-1/2", "-1", "-2", "-3/2", "-999999/1000000", "3/2", "2", "16", "1000001/1000000",
		"1" + repeated("0", 3999), "1" + repeated("0", 3998) + "1/1" + repeated("0", 3999), "1" + repeated("0", 3999) + "/" + repeated("9", 3999), "-1/1" + repeated("0", 3999), "-" + repeated("9", 4000),
	} {
		for _, bound := range []int{0, 1, 16, 17, -1} {
			refused(t, q, bound, "01", 0, api.ErrRange)
		}
	}
	for _, q := range []api.Num{"1", "1/2", "999999/1000000", "1/1000000"} {
		for _, bound := range []int{0, 1, api.MaxBell} {
			accepted(t, q, bound)
		}
	}
}

func TestBounds(t *testing.T) { // P7.1, P7.2
	for _, bound := range []int{-1, -2, -16, math.MinInt, 17, 18, 1 << 32, math.MaxInt} {
		for _, q := range []api.Num{"1", "1/2", "2/3", "1/1" + repeated("0", 15), "1/1" + repeated("0", 3999)} {
			refused(t, q, bound, "01", 0, api.ErrRange)
		}
	}
	for bound := range api.MaxBell + 1 {
		accepted(t, "1/2", bound)
		if many := len(must(bell.Weights("1/2", bound))); many != 2*bound+1 {
			t.Error(bound, many)
		}
	}
}

// greatest returns the greatest number that, multiplied n times, has at most MaxWeight digits.
func greatest(n int) api.Num {
	digits := api.MaxWeight / n
	if digits*n == api.MaxWeight {
		return repeated("9", digits)
	}
	low, high := "1"+repeated("0", digits), "1"+repeated("0", digits+1)
	for {
		middle, _, _ := nat.DivMod(must(nat.Add(low, high)), "2")
		if middle == low {
			return low
		}
		if p, e := nat.Pow(middle, n); e == api.OK && len(p) <= api.MaxWeight {
			low = middle
		} else {
			high = middle
		}
	}
}

func TestDigitsOfWeights(t *testing.T) { // P7.1, P7.2
	for bound := 1; bound <= api.MaxBell; bound++ {
		most := greatest(bound * bound)
		if len(must(nat.Pow(most, bound*bound))) != api.MaxWeight {
			t.Error("fewer digits than are allowed", bound)
		}
		more, less := must(nat.Add(most, "1")), must(nat.Sub(most, "1"))
		if bound%4 == 1 {
			accepted(t, "1/"+most, bound)
			accepted(t, less+"/"+most, bound)
		}
		weights := must(bell.Weights(less+"/"+most, bound))
		if len(weights) != 2*bound+1 || len(weights[bound]) != api.MaxWeight {
			t.Error(bound, len(weights))
		}
		refused(t, "1/"+more, bound, "01", 0, api.ErrOver)
		refused(t, most+"/"+more, bound, "01", 0, api.ErrOver)
		refused(t, "1/1"+repeated("0", 3999), bound, "01", 0, api.ErrOver)
		refused(t, repeated("9", 3999)+"/1"+repeated("0", 3999), bound, "01", 0, api.ErrOver)
	}
	// With the bound 0 the only weight is 1.
	accepted(t, "1/1"+repeated("0", 3999), 0)
	accepted(t, repeated("9", 3999)+"/1"+repeated("0", 3999), 0)
	expect(t, []api.Num{"1"})(bell.Weights("1/1"+repeated("0", 3999), 0))
}

func TestOrderOfErrors(t *testing.T) { // P7.1, P7.2
	tooLong := pattern("01", api.MaxBits+1)
	for _, b := range []api.Bits{"01", "2", tooLong, tooLong + "x"} {
		for _, n := range []int{0, 2, -1, api.MaxBits + 1, math.MinInt, math.MaxInt} {
			// The ratio first, whatever the bound is,
			for _, bound := range []int{1, -1, 17} {
				refused(t, "2/4", bound, b, n, api.ErrForm)
				refused(t, "1/1"+repeated("0", 4000), bound, b, n, api.ErrOver)
				refused(t, "0", bound, b, n, api.ErrRange)
				refused(t, "1"+repeated("0", 3999), bound, b, n, api.ErrRange)
			}
			// then the bound, then the weights of both.
			refused(t, "1/1"+repeated("0", 3999), -1, b, n, api.ErrRange)
			refused(t, "1/1"+repeated("0", 3999), 17, b, n, api.ErrRange)
			refused(t, "1/1"+repeated("0", 3999), 1, b, n, api.ErrOver)
			refused(t, "1/1"+repeated("0", 15), 16, b, n, api.ErrOver)
		}
	}
}

func TestBits(t *testing.T) { // P7.1
	most := pattern("01", api.MaxBits)
	models := []model{{"1/2", 0}, {"1/2", 1}, {"1", 16}, {"2/3", 4}, {"1/1" + repeated("0", 14), 16}}
	for _, m := range models {
		for _, b := range []api.Bits{"2", "/", " ", "-", "01x", "x10", "0 1", "0\n", "1\x00", "\xff", "١", "1/2", most + "2", "2" + most, most + most + "a"} {
			refuse[api.Draw](t, api.ErrForm)(bell.Draw(m.q, m.bound, b))
		}
		for _, b := range []api.Bits{most + "0", "1" + most, most + most, pattern("0", 100000)} {
			refuse[api.Draw](t, api.ErrLong)(bell.Draw(m.q, m.bound, b))
		}
		must(bell.Draw(m.q, m.bound, most))
	}
	for _, b := range []api.Bits{"", "0", "1", "0110", most} {
		expect(t, decided(0, 0))(bell.Draw("1/2", 0, b))
	}
	expect(t, late(0))(bell.Draw("1/2", 1, ""))
	expect(t, late(api.MaxBits))(bell.Draw("1", 1, most))
}

func TestNumbersOfBits(t *testing.T) { // P7.2
	for _, m := range []model{{"1", 0}, {"1/2", 1}, {"2/3", 16}, {"1/1" + repeated("0", 14), 16}} {
		for _, n := range []int{-1, -2, -256, math.MinInt, api.MaxBits + 1, 1000, 1 << 32, math.MaxInt} {
			refuse[api.Dist](t, api.ErrRange)(bell.Law(m.q, m.bound, n))
			refuse[api.Num](t, api.ErrRange)(bell.Late(m.q, m.bound, n))
		}
	}
	for _, n := range []int{0, api.MaxBits} {
		expect(t, api.Dist{{Key: "0", P: "1"}})(bell.Law("2/3", 0, n))
		expect(t, api.Num("0"))(bell.Late("2/3", 0, n))
		// Three parts that are alike leave the cells at both borders undecided, or the only one.
		expect(t, must(rat.Min("1", must(rat.Mul("2", must(rat.Pow("1/2", n)))))))(bell.Late("1", 1, n))
	}
	expect(t, api.Dist{{Key: "late", P: "1"}})(bell.Law("1/2", 1, 0))
	expect(t, api.Num("1"))(bell.Late("1/2", 1, 0))
	expect(t, api.Num("0"))(bell.Late("1/2", 1, api.MaxBits))
}

func TestIntegers(t *testing.T) { // P7.2
	for bound := range api.MaxBell + 1 {
		for _, q := range []api.Num{"1", "1/2", "99/100"} {
			for _, k := range []int{-bound - 1, bound + 1, -bound - 2, bound + 2, -17, 17, math.MinInt, math.MaxInt} {
				refuse[api.Num](t, api.ErrRange)(bell.Mass(q, bound, k))
			}
			exact := must(bell.Exact(q, bound))
			for _, k := range []int{-bound, bound, 0} {
				expect(t, probabilityOf(exact, strconv.Itoa(k)))(bell.Mass(q, bound, k))
			}
		}
	}
}
