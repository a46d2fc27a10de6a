package geom_test

import (
	"math"
	"testing"

	"privhouse/api"
	"privhouse/bits"
	"privhouse/coin"
	"privhouse/geom"
	"privhouse/rat"
)

func TestExamples(t *testing.T) { // P6.1, P6.2, P6.3
	expect(t, decided(2, 3))(geom.One("1/2", "0010"))
	expect(t, decided(0, 1))(geom.One("1/2", "1"))
	expect(t, late(2))(geom.One("1/2", "00"))
	expect(t, decided(2, 4))(geom.Two("1/2", "0011"))
	expect(t, decided(-1, 3))(geom.Two("1/2", "101"))
	expect(t, late(1))(geom.Two("1/2", "1"))
	expect(t, decided(0, 0))(geom.Two("0", ""))
	refuse[api.Draw](t, api.ErrRange)(geom.One("1", "0"))
	refuse[api.Draw](t, api.ErrForm)(geom.One("1/2", "x"))
	refuse[api.Num](t, api.ErrRange)(geom.OneMass("1/2", 10001))
	expect(t, api.Num("2/27"))(geom.OneMass("1/3", 2))
	expect(t, api.Num("1/6"))(geom.TwoMass("1/3", -1))
	expect(t, api.Num("1/9"))(geom.OneTail("1/3", 2))
	expect(t, api.Num("1/4"))(geom.TwoTail("1/3", 1))
	expect(t, api.Num("3/4"))(geom.TwoTail("1/3", 0))
	expect(t, api.Num("1/8"))(geom.OneLate("1/2", 3))
	expect(t, api.Num("3/4"))(geom.TwoLate("1/2", 2))
	expect(t, api.Dist{{Key: "0", P: "1/2"}, {Key: "1", P: "1/4"}, {Key: "late", P: "1/4"}})(geom.OneLaw("1/2", 2))
	expect(t, api.Dist{{Key: "0", P: "1/4"}, {Key: "late", P: "3/4"}})(geom.TwoLaw("1/2", 2))
	// The examples of the whole program.
	expect(t, decided(1, 3))(geom.Two("1/2", "0110"))
	expect(t, api.Num("7/64"))(geom.TwoLate("1/2", 6))
}

func TestShortDraws(t *testing.T) { // P6.1
	for _, f := range kinds() {
		for _, a := range ratios(9) {
			for n := range 10 {
				for _, b := range must(bits.All(n)) {
					expect(t, draw(f.series, a.toss, b))(f.draw(a.text(), b))
				}
			}
		}
	}
}

// longBits returns long bit strings, with many and few of each bit.
func longBits() []api.Bits {
	var l []api.Bits
	for _, n := range []int{97, api.MaxBits} {
		for _, b := range []string{"0", "1", "01", "001", "0110", "0000000000000001", "1110", "00010111"} {
			l = append(l, pattern(b, n), pattern("0", n/2)+pattern(b, n-n/2))
		}
	}
	return l
}

func TestLongDraws(t *testing.T) { // P6.1
	for _, f := range kinds() {
		for _, a := range several() {
			toss := func(b api.Bits) api.Draw { return must(coin.Draw(a, b)) }
			for _, b := range longBits() {
				expect(t, draw(f.series, toss, b))(f.draw(a, b))
			}
		}
	}
	zeros := pattern("0", api.MaxBits)
	expect(t, decided(255, 256))(geom.One("1/2", zeros[1:]+"1"))
	expect(t, decided(254, 256))(geom.Two("1/2", zeros[2:]+"11"))
	expect(t, decided(-254, 256))(geom.Two("1/2", "1"+zeros[2:]+"1"))
	expect(t, decided(0, 256))(geom.Two("1/2", zeros[129:]+"1"+zeros[129:]+"1"))
	expect(t, late(256))(geom.One("1/2", zeros))
	expect(t, late(256))(geom.Two("1/2", zeros[1:]+"1"))
	expect(t, late(255))(geom.Two("1/2", zeros[2:]+"1"))
}

func TestRatioZero(t *testing.T) { // P6.1, P6.2, P6.3
	for _, f := range kinds() {
		for _, b := range []api.Bits{"", "0", "1", "01", "10", pattern("0", api.MaxBits), pattern("1", api.MaxBits)} {
			expect(t, decided(0, 0))(f.draw("0", b))
		}
		for _, n := range []int{0, 1, 2, api.MaxLaw} {
			expect(t, api.Num("0"))(f.late("0", n))
			expect(t, api.Dist{{Key: "0", P: "1"}})(f.law("0", n))
		}
		expect(t, api.Num("0"))(f.late("0", api.MaxBits))
		expect(t, api.Num("1"))(f.mass("0", 0))
		for _, k := range []int{1, 2, api.MaxPower} {
			expect(t, api.Num("0"))(f.mass("0", k))
			expect(t, api.Num("0"))(f.mass("0", -k))
			expect(t, api.Num("0"))(f.tail("0", k))
			expect(t, api.Num("1"))(f.tail("0", 1-k))
			expect(t, api.Num("1"))(f.tail("0", -k))
		}
	}
}

func TestDrawsOfNoBits(t *testing.T) { // P6.1, P6.3
	for _, f := range kinds() {
		for _, a := range several() {
			if a == "0" {
				continue
			}
			expect(t, late(0))(f.draw(a, ""))
			expect(t, api.Num("1"))(f.late(a, 0))
			expect(t, api.Dist{{Key: "late", P: "1"}})(f.law(a, 0))
		}
	}
}

// Ratios near 0 and 1 whose first binary digits are all alike.
func TestExtremeRatios(t *testing.T) { // P6.1, P6.3
	const most = api.MaxParam
	zeros, ones := pattern("0", api.MaxBits), pattern("1", api.MaxBits)
	for _, tiny := range []api.Num{longest()[0], longest()[1], must(rat.Pow("1/2", 257))} {
		expect(t, decided(0, 1))(geom.One(tiny, ones))
		expect(t, decided(0, 2))(geom.Two(tiny, ones))
		expect(t, decided(0, 256))(geom.One(tiny, zeros[1:]+"1"))
		expect(t, late(256))(geom.One(tiny, zeros))
		expect(t, must(rat.Pow("1/2", 256)))(geom.OneLate(tiny, 256))
		// Two bits 1 decide both series.
		expect(t, must(rat.Mul("257", must(rat.Pow("1/2", 256)))))(geom.TwoLate(tiny, 256))
		expect(t, api.Dist{{Key: "0", P: "7/8"}, {Key: "late", P: "1/8"}})(geom.OneLaw(tiny, 3))
		expect(t, api.Dist{{Key: "0", P: "1/2"}, {Key: "late", P: "1/2"}})(geom.TwoLaw(tiny, 3))
	}
	for _, near := range []api.Num{repeated("9", most-1) + "8/" + repeated("9", most), must(rat.Sub("1", must(rat.Pow("1/2", 257))))} {
		for _, f := range kinds() {
			for _, b := range []api.Bits{zeros, ones, pattern("01", api.MaxBits)} {
				expect(t, late(256))(f.draw(near, b))
			}
			for _, n := range []int{0, 1, 32} {
				expect(t, api.Num("1"))(f.late(near, n))
				expect(t, api.Dist{{Key: "late", P: "1"}})(f.law(near, n))
			}
			expect(t, api.Num("1"))(f.late(near, 256))
		}
	}
	less := must(rat.Sub("1", must(rat.Pow("1/2", 256))))
	expect(t, decided(0, 256))(geom.One(less, ones))
	expect(t, less)(geom.OneLate(less, 256))
	expect(t, api.Num("1"))(geom.OneLate(less, 255))
	expect(t, api.Num("1"))(geom.TwoLate(less, 256))
}

func TestBits(t *testing.T) { // P6.1
	most := pattern("01", api.MaxBits)
	refuseBits := func(b api.Bits, want api.Errno) {
		t.Helper()
		for _, f := range kinds() {
			for _, a := range []api.Num{"0", "1/2", "2/3", longest()[3]} {
				refuse[api.Draw](t, want)(f.draw(a, b))
			}
		}
	}
	for _, b := range []api.Bits{"2", "/", " ", "-", "01x", "x10", "11x", "0 1", "1\n", "1\x00", "\xff", "١", "1/2", most + "2", "2" + most, most + most + "a"} {
		refuseBits(b, api.ErrForm)
	}
	for _, b := range []api.Bits{most + "0", "1" + most, most + most, pattern("0", 257), pattern("1", 100000)} {
		refuseBits(b, api.ErrLong)
	}
	expect(t, decided(1, 2))(geom.One("1/2", most))
	expect(t, decided(0, 4))(geom.Two("1/2", most))
	expect(t, late(api.MaxBits))(geom.One("2/3", pattern("0", api.MaxBits)))
}

func TestRatios(t *testing.T) { // P6.1, P6.2, P6.3
	long := "1" + repeated("0", api.MaxDigits)
	for _, a := range []api.Num{"", "-", "+1", "-0", "00", "01", "0.5", "x", " 0", "0 ", "1/", "/2", "1/1", "0/1", "0/2", "1/0", "2/4", "3/6", "2/2", "4/2", "1/02", "01/2", "1/2/3", "1/-2", "½", "1/2\n", long + "x", "01/" + long} {
		refused(t, a, "01", 2, api.ErrForm)
	}
	for _, a := range []api.Num{"1", "2", "3/2", "4/3", "1001/1000", "1000000", "-1", "-1/2", "-1/3", "-12", "-3/2"} {
		refused(t, a, "01", 2, api.ErrRange)
	}
	for _, a := range []api.Num{long, "-" + long, "1/" + long, "-1/" + long, long + "/3"} {
		refused(t, a, "01", 2, api.ErrOver)
	}
}

func TestDigits(t *testing.T) { // P6.1, P6.2, P6.3
	for _, f := range kinds() {
		for _, a := range longest() {
			must(f.draw(a, "0110"))
			must(f.mass(a, 1))
			must(f.tail(a, 1))
			must(f.late(a, api.MaxBits))
			must(f.law(a, api.MaxLaw))
		}
	}
	const most = api.MaxParam
	ten, nines := "1"+repeated("0", most), repeated("9", most)
	above := ten[:most] + "1"
	for _, a := range []api.Num{"1/" + ten, "3/" + ten, nines + "/" + ten, ten + "/" + above, "1/1" + repeated("0", 3999)} {
		refused(t, a, "01", 2, api.ErrOver)
	}
	// That a number is out of range is found before its length.
	for _, a := range []api.Num{ten, "-" + ten, "-1/" + ten, above + "/" + ten, ten + "/" + nines, ten + "/3", "1" + repeated("0", 3999)} {
		refused(t, a, "01", 2, api.ErrRange)
	}
}

func TestOrderOfErrors(t *testing.T) { // P6.1, P6.2, P6.3
	tooLong := pattern("0", api.MaxBits+1)
	over := "1/1" + repeated("0", api.MaxParam)
	for _, b := range []api.Bits{"2", tooLong, tooLong + "x"} {
		for _, n := range []int{-1, api.MaxBits + 1, math.MinInt, math.MaxInt} {
			refused(t, "2/4", b, n, api.ErrForm)
			refused(t, "", b, n, api.ErrForm)
			refused(t, "1", b, n, api.ErrRange)
			refused(t, "-1/2", b, n, api.ErrRange)
			refused(t, over, b, n, api.ErrOver)
			refused(t, "1/1"+repeated("0", api.MaxDigits), b, n, api.ErrOver)
		}
	}
	for _, f := range kinds() {
		refuse[api.Draw](t, api.ErrForm)(f.draw("1/2", tooLong+"x"))
	}
}

func TestNumbersOfBits(t *testing.T) { // P6.3
	for _, f := range kinds() {
		for _, a := range []api.Num{"0", "1/2", "2/3", longest()[3]} {
			for _, n := range []int{-1, -2, -32, -256, math.MinInt, 1 << 32, math.MaxInt, api.MaxBits + 1} {
				refuse[api.Num](t, api.ErrRange)(f.late(a, n))
				refuse[api.Dist](t, api.ErrRange)(f.law(a, n))
			}
			for _, n := range []int{api.MaxLaw + 1, 64, api.MaxBits} {
				must(f.late(a, n))
				refuse[api.Dist](t, api.ErrRange)(f.law(a, n))
			}
			must(f.late(a, 0))
			must(f.law(a, 0))
			must(f.law(a, api.MaxLaw))
		}
	}
}
