package pick_test

import (
	"math"
	"strings"
	"testing"

	"privhouse/api"
	"privhouse/bits"
	"privhouse/pick"
	"privhouse/rat"
)

func TestExamples(t *testing.T) { // P5.1, P5.2
	expect(t, decided(0, 2))(pick.Draw(list("1 2 1"), "00"))
	expect(t, decided(1, 2))(pick.Draw(list("1 2 1"), "01"))
	expect(t, late(1))(pick.Draw(list("1 2 1"), "1"))
	expect(t, late(3))(pick.Draw(list("1 1 1"), "010"))
	expect(t, decided(1, 0))(pick.Draw(list("0 5 0"), ""))
	refuse[api.Draw](t, api.ErrZero)(pick.Draw(list("0 0"), "1"))
	refuse[api.Draw](t, api.ErrRange)(pick.Draw(nil, "1"))
	refuse[api.Draw](t, api.ErrForm)(pick.Draw(list("1 07"), "1"))
	expect(t, decided(5, 3))(pick.Below(6, "1111"))
	expect(t, decided(0, 0))(pick.Below(1, ""))
	refuse[api.Draw](t, api.ErrRange)(pick.Below(0, "1"))
	refuse[api.Draw](t, api.ErrRange)(pick.Below(1000001, "1"))
	expect(t, api.Num("1/2"))(pick.Late(list("1 1 1"), 2))
	expect(t, api.Dist{{Key: "0", P: "1/4"}, {Key: "2", P: "1/4"}, {Key: "late", P: "1/2"}})(pick.Law(list("1 1 1"), 2))
	expect(t, api.Dist{{Key: "0", P: "1/4"}, {Key: "1", P: "1/2"}, {Key: "2", P: "1/4"}})(pick.Exact(list("1 2 1")))
}

func TestShortDraws(t *testing.T) { // P5.1
	for _, weights := range smallWeights() {
		for n := range 7 {
			for _, b := range must(bits.All(n)) {
				expect(t, draw(weights, b))(pick.Draw(numbers(weights), b))
			}
		}
	}
	for _, weights := range longWeights() {
		for _, b := range must(bits.All(9)) {
			expect(t, draw(weights, b))(pick.Draw(numbers(weights), b))
		}
	}
}

func TestCertainDraws(t *testing.T) { // P5.1
	for _, w := range []api.Num{"1", "5", "64", digits(api.MaxWeight)} {
		for _, many := range []int{1, 2, 3, api.MaxDomain} {
			for _, i := range []int{0, many / 2, many - 1} {
				weights := repeated("0", many)
				weights[i] = w
				for _, b := range []api.Bits{"", "0", "1", "0110", alternating(api.MaxBits)} {
					expect(t, decided(i, 0))(pick.Draw(weights, b))
				}
			}
		}
	}
}

// prefixes checks a draw with each prefix of a bit string: it is late until the cell is in one part, and from then on the same.
func prefixes(t *testing.T, weights []api.Num, b api.Bits) {
	t.Helper()
	places := borders(weights)
	want := late(0)
	for n := range len(b) + 1 {
		if !want.Done {
			want = late(n)
			if i := outcome(places, b[:n]); i >= 0 {
				want = decided(i, n)
			}
		}
		// Most decided draws are alike.
		if !want.Done || n < want.Used+3 || n > len(b)-3 {
			expect(t, want)(pick.Draw(weights, b[:n]))
		}
	}
}

// near returns bit strings of n bits whose cells are at a place of the unit interval: the one that contains it, and its neighbours.
func near(place api.Num, n int) []api.Bits {
	whole := must(rat.Floor(must(rat.Mul(place, must(rat.Pow("2", n))))))
	var l []api.Bits
	for _, k := range []api.Num{must(rat.Sub(whole, "1")), whole, must(rat.Add(whole, "1"))} {
		if b, e := bits.Word(k, n); e == api.OK {
			l = append(l, b)
		}
	}
	return l
}

func TestLongDraws(t *testing.T) { // P5.1
	for _, weights := range greatWeights() {
		places := borders(weights)
		for _, i := range []int{0, 1, len(places) / 2, len(places) - 1} {
			for _, n := range []int{10, 255, 256} {
				for _, b := range near(places[i], n) {
					want := late(n)
					if i := outcome(places, b); i >= 0 {
						want = decided(i, must(pick.Draw(weights, b)).Used)
					}
					expect(t, want)(pick.Draw(weights, b))
				}
			}
		}
	}
	third := digits(1000)
	for _, weights := range [][]api.Num{list("1 1 1"), {third, "3" + third}, {"1", third, "0", "2"}, {third, third}} {
		for _, place := range borders(weights)[:2] {
			for _, b := range near(place, api.MaxBits) {
				prefixes(t, weights, b)
			}
		}
		prefixes(t, weights, alternating(api.MaxBits))
	}
}

// A border at a cell's end does not divide the cell, however near it is to the least one.
func TestLeastParts(t *testing.T) { // P5.1
	const most = api.MaxBits
	zeros, ones := api.Bits(strings.Repeat("0", most)), api.Bits(strings.Repeat("1", most))
	all := must(rat.Pow("2", most))
	rest := must(rat.Sub(all, "1"))
	expect(t, decided(0, most))(pick.Draw([]api.Num{"1", rest}, zeros))
	expect(t, decided(1, most))(pick.Draw([]api.Num{"1", rest}, zeros[1:]+"1"))
	expect(t, decided(1, 1))(pick.Draw([]api.Num{"1", rest}, ones))
	expect(t, decided(1, most))(pick.Draw([]api.Num{rest, "1"}, ones))
	expect(t, late(most))(pick.Draw([]api.Num{"1", all}, zeros))
	expect(t, late(most))(pick.Draw([]api.Num{all, "1"}, ones))
	expect(t, late(most-1))(pick.Draw([]api.Num{"1", rest}, zeros[1:]))
	expect(t, decided(2, 1))(pick.Draw([]api.Num{"0", "1", "1"}, "1"+zeros[1:]))
}

func TestWeights(t *testing.T) { // P5.1, P5.2
	for _, w := range []api.Num{"", "07", "00", "-1", "-0", "+1", "1/2", "2/1", "1.0", "x", " 1", "1 ", "5\n", "١", "1\x00", api.Num("0" + digits(4000)), digits(5000) + "x"} {
		refused(t, []api.Num{w}, "01", 2, api.ErrForm)
		refused(t, []api.Num{w, "1"}, "01", 2, api.ErrForm)
		refused(t, []api.Num{"1", "0", w}, "01", 2, api.ErrForm)
		refused(t, []api.Num{"0", w, "0"}, "01", 2, api.ErrForm)
		refused(t, append(repeated("1", api.MaxDomain-1), w), "01", 2, api.ErrForm)
	}
	for _, n := range []int{1, 2, 3, api.MaxDomain} {
		refused(t, repeated("0", n), "01", 2, api.ErrZero)
		expect(t, api.Num("0"))(pick.Late(append(repeated("0", n-1), "7"), 0))
	}
	refused(t, nil, "01", 2, api.ErrRange)
	refused(t, []api.Num{}, "01", 2, api.ErrRange)
	for _, n := range []int{api.MaxDomain + 1, api.MaxDomain + 2, 1000} {
		for _, w := range []api.Num{"0", "1", "07", digits(4001)} {
			refused(t, repeated(w, n), "01", 2, api.ErrRange)
		}
	}
	expect(t, decided(31, 6))(pick.Draw(repeated("1", api.MaxDomain), "011111"))
}

func TestDigits(t *testing.T) { // P5.1, P5.2
	most := digits(api.MaxWeight)
	for _, weights := range [][]api.Num{{most}, {most, most}, {"0", most}, repeated(most, api.MaxDomain)} {
		must(pick.Draw(weights, alternating(api.MaxBits)))
		must(pick.Late(weights, api.MaxBits))
		must(pick.Law(weights, api.MaxBits))
	}
	expect(t, api.Dist{{Key: "0", P: "1/2"}, {Key: "1", P: "1/2"}})(pick.Exact([]api.Num{most, most}))
	expect(t, api.Num("0"))(pick.Late(repeated(most, api.MaxDomain), 6))
	for _, n := range []int{api.MaxWeight + 1, api.MaxDigits - 1, api.MaxDigits, api.MaxDigits + 1, 10000} {
		long := digits(n)
		refused(t, []api.Num{long}, "01", 2, api.ErrOver)
		refused(t, []api.Num{"0", long}, "01", 2, api.ErrOver)
		refused(t, []api.Num{long, "1"}, "01", 2, api.ErrOver)
		refused(t, append(repeated(most, api.MaxDomain-1), long), "01", 2, api.ErrOver)
	}
}

func TestOrderOfErrors(t *testing.T) { // P5.1, P5.2
	tooLong := alternating(api.MaxBits + 1)
	long := digits(api.MaxWeight + 1)
	for _, b := range []api.Bits{"01", "2", tooLong, tooLong + "x"} {
		for _, n := range []int{2, -1, api.MaxBits + 1} {
			refused(t, nil, b, n, api.ErrRange)
			refused(t, []api.Num{long, "07"}, b, n, api.ErrOver)
			refused(t, []api.Num{"07", long}, b, n, api.ErrForm)
			refused(t, []api.Num{digits(4001), "07"}, b, n, api.ErrOver)
			refused(t, []api.Num{"0", long, "x", "0"}, b, n, api.ErrOver)
			refused(t, []api.Num{"0", "x", long, "0"}, b, n, api.ErrForm)
			refused(t, []api.Num{"0", "0"}, b, n, api.ErrZero)
			refused(t, append(repeated("0", api.MaxDomain), "x"), b, n, api.ErrRange)
		}
		refuse[api.Draw](t, api.ErrRange)(pick.Below(0, b))
		refuse[api.Draw](t, api.ErrRange)(pick.Below(api.MaxBelow+1, b))
	}
}

func TestBits(t *testing.T) { // P5.1
	most := alternating(api.MaxBits)
	refuseBits := func(b api.Bits, want api.Errno) {
		for _, weights := range [][]api.Num{list("5"), list("0 1"), list("1 1 1"), {digits(api.MaxWeight), "1"}} {
			refuse[api.Draw](t, want)(pick.Draw(weights, b))
		}
		for _, many := range []int{1, 2, 6, api.MaxBelow} {
			refuse[api.Draw](t, want)(pick.Below(many, b))
		}
	}
	for _, b := range []api.Bits{"2", "/", " ", "-", "01x", "x10", "0 1", "0\n", "1\x00", "\xff", "١", "1/2", most + "2", "2" + most, most + most + "a"} {
		refuseBits(b, api.ErrForm)
	}
	for _, b := range []api.Bits{most + "0", "1" + most, most + most, alternating(100000)} {
		refuseBits(b, api.ErrLong)
	}
	expect(t, late(api.MaxBits))(pick.Draw(list("1 1 1"), most))
	expect(t, late(0))(pick.Draw(list("1 1"), ""))
	expect(t, decided(0, 0))(pick.Draw(list("1"), most))
}

func TestNumbersOfBits(t *testing.T) { // P5.2
	for _, n := range []int{-1, -2, -256, math.MinInt, api.MaxBits + 1, 1000, 1 << 32, math.MaxInt} {
		for _, weights := range [][]api.Num{list("1"), list("1 1 1"), {digits(api.MaxWeight)}} {
			refuse[api.Num](t, api.ErrRange)(pick.Late(weights, n))
			refuse[api.Dist](t, api.ErrRange)(pick.Law(weights, n))
		}
	}
	for _, n := range []int{0, api.MaxBits} {
		expect(t, api.Dist{{Key: "1", P: "1"}})(pick.Law(list("0 3"), n))
		expect(t, api.Num("0"))(pick.Late(list("0 3"), n))
		expect(t, must(rat.Pow("1/2", n)))(pick.Late(list("1 2"), n))
	}
	expect(t, api.Dist{{Key: "late", P: "1"}})(pick.Law(list("1 2 1"), 0))
	expect(t, api.Dist{{Key: "0", P: "1/4"}, {Key: "1", P: "1/2"}, {Key: "2", P: "1/4"}})(pick.Law(list("1 2 1"), api.MaxBits))
}

func TestBelow(t *testing.T) { // P5.1
	for many := 1; many <= 40; many++ {
		weights := make([]int, many)
		for i := range weights {
			weights[i] = 1
		}
		for n := range 8 {
			for _, b := range must(bits.All(n)) {
				expect(t, draw(weights, b))(pick.Below(many, b))
			}
		}
	}
	for _, many := range []int{0, -1, -64, math.MinInt, api.MaxBelow + 1, api.MaxBelow * 2, math.MaxInt} {
		for _, b := range []api.Bits{"", "0", "01", "x", alternating(api.MaxBits), alternating(api.MaxBits + 1)} {
			refuse[api.Draw](t, api.ErrRange)(pick.Below(many, b))
		}
	}
}

func TestBelowPowersOfTwo(t *testing.T) { // P5.1
	for n := 0; n <= 19; n++ {
		for _, k := range []int{0, 1, 1<<n/3 + 1, 1<<n - 2, 1<<n - 1} {
			if k < 0 || k >= 1<<n {
				continue
			}
			b := must(bits.Word(rat.Int(k), n))
			expect(t, decided(k, n))(pick.Below(1<<n, b))
			expect(t, decided(k, n))(pick.Below(1<<n, b+"0110"))
			if n > 0 {
				expect(t, late(n-1))(pick.Below(1<<n, b[:n-1]))
			}
		}
	}
}

func TestBelowMany(t *testing.T) { // P5.1
	for _, many := range []int{3, 65, 1000, 999999, api.MaxBelow} {
		for _, value := range []int{0, 1, many / 7, many / 2, many - 2, many - 1} {
			for _, n := range []int{20, 30, 256} {
				for _, b := range near(must(rat.Make(rat.Int(value), rat.Int(many))), n) {
					below(t, many, b)
				}
			}
		}
		below(t, many, alternating(api.MaxBits))
		below(t, many, api.Bits(strings.Repeat("1", api.MaxBits)))
	}
}

// below checks a uniform draw with the digits of the cell's ends: it decides as soon as they lead to the same value.
func below(t *testing.T, many int, b api.Bits) {
	t.Helper()
	want := late(len(b))
	for n := range len(b) + 1 {
		low, width, _ := bits.Cell(b[:n])
		first := must(rat.Floor(must(rat.Mul(low, rat.Int(many)))))
		end := must(rat.Mul(must(rat.Add(low, width)), rat.Int(many)))
		if must(rat.Cmp(end, must(rat.Add(first, "1")))) <= 0 {
			value := 0
			for _, c := range first {
				value = 10*value + int(c-'0')
			}
			want = decided(value, n)
			break
		}
	}
	expect(t, want)(pick.Below(many, b))
}
