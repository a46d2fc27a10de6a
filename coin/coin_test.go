package coin_test

import (
	"math"
	"strings"
	"testing"

	"privhouse/api"
	"privhouse/bits"
	"privhouse/coin"
	"privhouse/rat"
)

func TestExamples(t *testing.T) { // P4.1, P4.2
	expect(t, decided(0, 1))(coin.Draw("1/2", "1"))
	expect(t, late(2))(coin.Draw("1/3", "01"))
	expect(t, decided(1, 2))(coin.Draw("1/3", "001"))
	expect(t, decided(0, 0))(coin.Draw("0", "11"))
	expect(t, decided(1, 0))(coin.Draw("1", ""))
	expect(t, decided(1, 2))(coin.Draw("3/4", "10"))
	expect(t, late(0))(coin.Draw("3/4", ""))
	refused(t, "3/2", "0", 0, api.ErrRange)
	refused(t, "2/4", "0", 0, api.ErrForm)
	refusedBits(t, "2", api.ErrForm)
	refusedNumber(t, -1)
	expect(t, api.Num("1/4"))(coin.Late("1/3", 2))
	expect(t, api.Num("0"))(coin.Late("3/4", 2))
	expect(t, api.Num("1/2"))(coin.Late("3/4", 1))
	expect(t, api.Dist{{Key: "0", P: "1/2"}, {Key: "1", P: "1/4"}, {Key: "late", P: "1/4"}})(coin.Law("1/3", 2))
}

func TestShortDraws(t *testing.T) { // P4.1
	for _, p := range shares(20) {
		for n := range 8 {
			for _, b := range must(bits.All(n)) {
				expect(t, p.toss(b))(coin.Draw(p.text(), b))
			}
		}
	}
}

func TestCertainDraws(t *testing.T) { // P4.1
	for _, b := range []api.Bits{"", "0", "1", "01", "10", api.Bits(repeated("0", 256)), api.Bits(repeated("1", 256))} {
		expect(t, decided(0, 0))(coin.Draw("0", b))
		expect(t, decided(1, 0))(coin.Draw("1", b))
	}
}

func TestDrawsOfNoBits(t *testing.T) { // P4.1
	for _, p := range several() {
		expect(t, late(0))(coin.Draw(p, ""))
	}
}

// placesBelow returns the first places below n, fewer and fewer of the others, and the last one.
func placesBelow(n int) []int {
	var l []int
	for i := 0; i < n-1; i += 1 + i/8 {
		l = append(l, i)
	}
	return append(l, n-1)
}

// A probability is in the cell of the bits that are its own binary digits, and beside the cells that leave them.
func TestLongDraws(t *testing.T) { // P4.1
	for _, p := range several() {
		digits, more := expansion(p, api.MaxBits)
		whole := api.MaxBits
		if !more {
			whole = len(strings.TrimRight(string(digits), "0"))
		}
		for _, used := range placesBelow(whole) {
			expect(t, late(used))(coin.Draw(p, digits[:used]))
			// All that follows the first other bit is not read.
			rest := digits[used+1:]
			if digits[used] == '0' {
				expect(t, decided(0, used+1))(coin.Draw(p, digits[:used]+"1"+rest))
			} else {
				expect(t, decided(1, used+1))(coin.Draw(p, digits[:used]+"0"+rest))
			}
		}
		if more {
			expect(t, late(api.MaxBits))(coin.Draw(p, digits))
		} else {
			expect(t, decided(0, whole))(coin.Draw(p, digits))
		}
	}
}

// refusedBits checks that a draw returns an error, and nothing else, for each kind of probability.
func refusedBits(t *testing.T, b api.Bits, want api.Errno) {
	t.Helper()
	for _, p := range []api.Num{"0", "1", "1/2", "1/3", longest()[0]} {
		if draw, e := coin.Draw(p, b); draw != (api.Draw{}) || e != want {
			t.Error(p, b, draw, e, "instead of", want)
		}
	}
}

func TestBits(t *testing.T) { // P4.1
	most := api.Bits(repeated("01", api.MaxBits/2))
	expect(t, late(api.MaxBits))(coin.Draw("1/3", most))
	refusedBits(t, most+"0", api.ErrLong)
	refusedBits(t, "0"+most, api.ErrLong)
	refusedBits(t, most+most+most, api.ErrLong)
	for _, b := range []api.Bits{"2", "/", " ", "-", "01x", "x10", "0 1", "0\n", "1\x00", "\xff", "١", "1/2", most + "2", "2" + most, most + most + "a"} {
		refusedBits(t, b, api.ErrForm)
	}
}

func TestProbabilities(t *testing.T) { // P4.1, P4.2
	long := "1" + repeated("0", api.MaxDigits)
	for _, p := range []api.Num{"", "-", "+1", "-0", "00", "01", "1.5", "x", " 1", "1 ", "1/", "/2", "1/1", "0/1", "0/2", "1/0", "2/4", "3/6", "2/2", "1/02", "01/2", "1/2/3", "1/-2", "½", "1/2\n", long + "x", "01/" + long} {
		refused(t, p, "01", 2, api.ErrForm)
	}
	for _, p := range []api.Num{"-1", "-1/2", "-1/3", "-12", "2", "3/2", "4/3", "1001/1000", "1000000"} {
		refused(t, p, "01", 2, api.ErrRange)
	}
	for _, p := range []api.Num{long, "-" + long, "1/" + long, "-1/" + long, long + "/3"} {
		refused(t, p, "01", 2, api.ErrOver)
	}
}

func TestDigits(t *testing.T) { // P4.1, P4.2
	for _, p := range longest() {
		expect(t, late(0))(coin.Draw(p, ""))
		expect(t, api.Num("1"))(coin.Late(p, 0))
	}
	const most = api.MaxParam
	ten, nines := "1"+repeated("0", most), repeated("9", most)
	above := ten[:most] + "1"
	for _, p := range []api.Num{"1/" + ten, "3/" + ten, nines + "/" + ten, ten + "/" + above, "1/1" + repeated("0", 3999)} {
		refused(t, p, "01", 2, api.ErrOver)
	}
	// That a number is out of range is found before its length.
	for _, p := range []api.Num{ten, "-" + ten, "-1/" + ten, above + "/" + ten, ten + "/" + nines, ten + "/3", "1" + repeated("0", 3999)} {
		refused(t, p, "01", 2, api.ErrRange)
	}
}

func TestOrderOfErrors(t *testing.T) { // P4.1, P4.2
	tooLong := api.Bits(repeated("0", api.MaxBits+1))
	over := "1/1" + repeated("0", api.MaxParam)
	for _, b := range []api.Bits{"2", tooLong, tooLong + "x"} {
		for _, n := range []int{-1, api.MaxBits + 1} {
			refused(t, "2/4", b, n, api.ErrForm)
			refused(t, "", b, n, api.ErrForm)
			refused(t, "3/2", b, n, api.ErrRange)
			refused(t, "-1/2", b, n, api.ErrRange)
			refused(t, over, b, n, api.ErrOver)
			refused(t, "1/1"+repeated("0", api.MaxDigits), b, n, api.ErrOver)
		}
	}
	refusedBits(t, tooLong+"x", api.ErrForm)
}

// refusedNumber checks that n is refused as a number of bits.
func refusedNumber(t *testing.T, n int) {
	t.Helper()
	for _, p := range []api.Num{"0", "1", "1/2", "1/3", longest()[0]} {
		if late, e := coin.Late(p, n); late != "" || e != api.ErrRange {
			t.Error(p, n, late, e)
		}
		if law, e := coin.Law(p, n); len(law) != 0 || e != api.ErrRange {
			t.Error(p, n, law, e)
		}
	}
}

func TestNumbersOfBits(t *testing.T) { // P4.2
	for _, n := range []int{-1, -2, -256, math.MinInt, api.MaxBits + 1, 1000, 1 << 32, math.MaxInt} {
		refusedNumber(t, n)
	}
	for _, n := range []int{0, api.MaxBits} {
		expect(t, api.Dist{{Key: "0", P: "1"}})(coin.Law("0", n))
		expect(t, api.Dist{{Key: "1", P: "1"}})(coin.Law("1", n))
		expect(t, api.Num("0"))(coin.Late("0", n))
		expect(t, api.Num("0"))(coin.Late("1", n))
		expect(t, must(rat.Pow("1/2", n)))(coin.Late("1/3", n))
	}
	expect(t, api.Dist{{Key: "late", P: "1"}})(coin.Law("1/2", 0))
	expect(t, api.Dist{{Key: "0", P: "1/2"}, {Key: "1", P: "1/2"}})(coin.Law("1/2", api.MaxBits))
}

func TestShortLaws(t *testing.T) { // P4.2
	for _, p := range shares(20) {
		for n := range 8 {
			law := p.law(n)
			expect(t, law)(coin.Law(p.text(), n))
			expect(t, probabilityOf(law, "late"))(coin.Late(p.text(), n))
		}
	}
}

// The bit strings with the value 1 are those whose numbers are below that of the first digits of the probability.
func TestLongLaws(t *testing.T) { // P4.2
	for _, p := range several() {
		for _, n := range []int{1, 2, 12, 13, 63, 64, 65, 254, 255, 256} {
			digits, more := expansion(p, n)
			one, width, _ := bits.Cell(digits)
			if !more {
				width = "0"
			}
			zero := must(rat.Sub(must(rat.Sub("1", one)), width))
			var want api.Dist
			for _, m := range []api.Mass{{Key: "0", P: zero}, {Key: "1", P: one}, {Key: "late", P: width}} {
				if m.P != "0" {
					want = append(want, m)
				}
			}
			expect(t, want)(coin.Law(p, n))
			expect(t, width)(coin.Late(p, n))
		}
	}
}
