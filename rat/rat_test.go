package rat_test

import (
	"cmp"
	"math"
	"testing"

	"privhouse/api"
	"privhouse/rat"
)

func TestExamples(t *testing.T) { // P2.3, P2.4
	expect(t, "5/6")(rat.Add("1/2", "1/3"))
	expect(t, "0")(rat.Sub("1/2", "1/2"))
	expect(t, "-1/2")(rat.Mul("-2/3", "3/4"))
	expect(t, "-1/6")(rat.Div("1/2", "-3"))
	expect(t, "-2")(rat.Floor("-3/2"))
	expect(t, "-1")(rat.Ceil("-3/2"))
	expect(t, "7")(rat.Floor("7"))
	expect(t, "2/5")(rat.Max("1/3", "2/5"))
	expect(t, "1/3")(rat.Min("1/3", "2/5"))
	if c, e := rat.Cmp("1/3", "2/5"); c != -1 || e != api.OK {
		t.Error(c, e)
	}
	if s, e := rat.Sign("-3/2"); s != -1 || e != api.OK {
		t.Error(s, e)
	}
}

func TestSmallOperations(t *testing.T) { // P2.3
	for _, x := range plains() {
		for _, y := range plains() {
			a, b := x.text(), y.text()
			expect(t, x.plus(y).text())(rat.Add(a, b))
			expect(t, x.plus(plain{-y.n, y.d}).text())(rat.Sub(a, b))
			expect(t, x.times(y).text())(rat.Mul(a, b))
			if y.n == 0 {
				refuse(t, api.ErrZero)(rat.Div(a, b))
				continue
			}
			expect(t, x.times(y.inverse()).text())(rat.Div(a, b))
		}
	}
}

func TestSmallChanges(t *testing.T) { // P2.3, P2.4
	for _, x := range plains() {
		a := x.text()
		expect(t, plain{-x.n, x.d}.text())(rat.Neg(a))
		expect(t, plain{max(x.n, -x.n), x.d}.text())(rat.Abs(a))
		expect(t, rat.Int(x.floor()))(rat.Floor(a))
		expect(t, rat.Int(-plain{-x.n, x.d}.floor()))(rat.Ceil(a))
		if s, e := rat.Sign(a); s != cmp.Compare(x.n, 0) || e != api.OK {
			t.Error(a, s, e)
		}
		if x.n == 0 {
			refuse(t, api.ErrZero)(rat.Inv(a))
			continue
		}
		expect(t, x.inverse().text())(rat.Inv(a))
	}
}

func TestSmallOrder(t *testing.T) { // P2.4
	for _, x := range plains() {
		for _, y := range plains() {
			a, b := x.text(), y.text()
			want := cmp.Compare(x.n*y.d, y.n*x.d)
			if c, e := rat.Cmp(a, b); c != want || e != api.OK {
				t.Error(a, b, c, e)
			}
			if want > 0 {
				a, b = b, a
			}
			expect(t, a)(rat.Min(x.text(), y.text()))
			expect(t, b)(rat.Max(x.text(), y.text()))
		}
	}
}

func TestSmallPowers(t *testing.T) { // P2.3
	for _, x := range plains() {
		want := plain{1, 1}
		for n := range 7 {
			if max(x.d, x.n, -x.n) > 10 && n > 2 {
				break
			}
			expect(t, want.text())(rat.Pow(x.text(), n))
			switch {
			case n > 0 && x.n == 0:
				refuse(t, api.ErrZero)(rat.Pow(x.text(), -n))
			case n > 0:
				expect(t, want.inverse().text())(rat.Pow(x.text(), -n))
			}
			want = want.times(x)
		}
	}
}

// TestImages compares the results for longer numbers with their images modulo a prime.
func TestImages(t *testing.T) { // P2.3
	ok := must(t)
	for _, a := range samples(t) {
		for _, b := range samples(t) {
			x, y := image(t, a), image(t, b)
			if image(t, ok(rat.Add(a, b))) != (x+y)%prime {
				t.Error("Add", a, b)
			}
			if image(t, ok(rat.Sub(a, b))) != (x+prime-y)%prime {
				t.Error("Sub", a, b)
			}
			if image(t, ok(rat.Mul(a, b))) != x*y%prime {
				t.Error("Mul", a, b)
			}
			if b != "0" && image(t, ok(rat.Div(a, b))) != x*inverse(y)%prime {
				t.Error("Div", a, b)
			}
		}
	}
}

func TestImagesOfPowers(t *testing.T) { // P2.3
	ok := must(t)
	for _, a := range samples(t) {
		want := uint64(1)
		for n := range 12 {
			if image(t, ok(rat.Pow(a, n))) != want {
				t.Error(a, n)
			}
			if a != "0" && image(t, ok(rat.Pow(a, -n))) != inverse(want) {
				t.Error(a, -n)
			}
			want = want * image(t, a) % prime
		}
	}
}

func TestExtremePowers(t *testing.T) { // P2.3
	bits := 13287 // 2^13287 is the greatest power of 2 with 4,000 digits
	for _, x := range []struct {
		a    api.Num
		n    int
		want api.Num
		err  api.Errno
	}{
		{"-2/3", 3, "-8/27", api.OK}, {"2/3", -2, "9/4", api.OK}, {"-2/3", -3, "-27/8", api.OK}, {"-2/3", -2, "9/4", api.OK}, {"-1/2", -1, "-2", api.OK},
		{"0", 0, "1", api.OK}, {"0", 1, "0", api.OK}, {"0", math.MaxInt, "0", api.OK}, {"0", -1, "", api.ErrZero}, {"0", math.MinInt, "", api.ErrZero}, {"0", -math.MaxInt, "", api.ErrZero},
		{"1", 0, "1", api.OK}, {"1", math.MaxInt, "1", api.OK}, {"1", math.MinInt, "1", api.OK}, {"1", -math.MaxInt, "1", api.OK},
		{"-1", 0, "1", api.OK}, {"-1", math.MaxInt, "-1", api.OK}, {"-1", math.MinInt, "1", api.OK}, {"-1", -math.MaxInt, "-1", api.OK}, {"-1", 1 << 62, "1", api.OK},
		{"2", math.MaxInt, "", api.ErrOver}, {"2", math.MinInt, "", api.ErrOver}, {"-1/2", math.MaxInt, "", api.ErrOver}, {"-1/2", math.MinInt, "", api.ErrOver}, {"2", 1 << 62, "", api.ErrOver}, {"3/2", -1 << 62, "", api.ErrOver},
		{"10", api.MaxDigits - 1, high, api.OK}, {"10", api.MaxDigits, "", api.ErrOver}, {"1/10", api.MaxDigits - 1, "1/" + high, api.OK}, {"1/10", api.MaxDigits, "", api.ErrOver},
		{"10", -(api.MaxDigits - 1), "1/" + high, api.OK}, {"10", -api.MaxDigits, "", api.ErrOver}, {"-1/10", -(api.MaxDigits - 1), "-" + high, api.OK}, {"-1/10", -api.MaxDigits, "", api.ErrOver},
		{"3/10", api.MaxDigits, "", api.ErrOver}, {"10/3", api.MaxDigits, "", api.ErrOver}, {"1/2", bits + 1, "", api.ErrOver}, {"2", bits + 1, "", api.ErrOver}, {"2", -bits - 1, "", api.ErrOver},
		{most, 0, "1", api.OK}, {most, 1, most, api.OK}, {most, -1, "1/" + most, api.OK}, {most, 2, "", api.ErrOver}, {"1/" + most, 2, "", api.ErrOver}, {"1/" + most, -2, "", api.ErrOver}, {"-1/" + most, -1, "-" + most, api.OK},
	} {
		if c, e := rat.Pow(x.a, x.n); c != x.want || e != x.err {
			t.Error(short(x.a), x.n, short(c), e)
		}
	}
	if a, e := rat.Pow("2", bits); len(a) != api.MaxDigits || e != api.OK {
		t.Error(short(a), e)
	}
	if a, e := rat.Pow("1/2", bits); len(a) != api.MaxDigits+2 || e != api.OK {
		t.Error(short(a), e)
	}
}

func TestZeroDivisors(t *testing.T) { // P2.3
	for _, a := range append(samples(t), most, "1/"+most) {
		refuse(t, api.ErrZero)(rat.Div(a, "0"))
	}
	refuse(t, api.ErrZero)(rat.Inv("0"))
	refuse(t, api.ErrForm)(rat.Div("0", "-0"))
	refuse(t, api.ErrForm)(rat.Div("0/1", "0"))
}

func TestGreatestResults(t *testing.T) { // P2.3
	half := ten(api.MaxDigits / 2)
	for _, x := range []struct {
		call       func(a, b api.Num) (api.Num, api.Errno)
		a, b, want api.Num
	}{
		{rat.Add, almost, "1", most}, {rat.Add, "-" + almost, "-1", "-" + most}, {rat.Sub, almost, "-1", most}, {rat.Sub, "-" + almost, "1", "-" + most},
		{rat.Add, most, "-1", almost}, {rat.Add, most, "0", most}, {rat.Sub, "0", most, "-" + most}, {rat.Sub, most, most, "0"},
		{rat.Add, "1/" + most, "0", "1/" + most}, {rat.Sub, "1/" + most, "1/" + most, "0"}, {rat.Sub, "0", "1/" + most, "-1/" + most},
		{rat.Mul, half, half[:len(half)-1], high}, {rat.Mul, "1/" + half, "1/" + half[:len(half)-1], "1/" + high}, {rat.Mul, "-" + most, "1", "-" + most}, {rat.Mul, most, "0", "0"},
		{rat.Div, half, "-1/" + half[:len(half)-1], "-" + high}, {rat.Div, "-1", most, "-1/" + most}, {rat.Div, most, high, most + "/" + high}, {rat.Div, "0", "1/" + most, "0"},
	} {
		expect(t, x.want)(x.call(x.a, x.b))
	}
	for _, a := range []api.Num{most, "1/" + most, most + "/" + high} {
		expect(t, "-"+a)(rat.Neg(a))
		expect(t, a)(rat.Neg("-" + a))
		expect(t, a)(rat.Abs("-" + a))
		expect(t, a)(rat.Max(a, "-"+a))
	}
	expect(t, "-1/"+most)(rat.Inv("-" + most))
	expect(t, high+"/"+most)(rat.Inv(most + "/" + high))
}

func TestResultsOfOneDigitTooMany(t *testing.T) { // P2.3
	half := ten(api.MaxDigits / 2)
	for _, x := range []struct {
		call func(a, b api.Num) (api.Num, api.Errno)
		a, b api.Num
	}{
		{rat.Add, most, "1"}, {rat.Add, "-1", "-" + most}, {rat.Sub, most, "-1"}, {rat.Sub, "-" + most, "1"}, {rat.Add, most, most},
		{rat.Add, almost, "1/2"}, {rat.Add, "1/2", most}, {rat.Sub, "1/2", most}, {rat.Add, high + "/3", "1/10"},
		{rat.Add, "1/" + high, "1/11"}, {rat.Sub, "1/10", "1/" + most}, {rat.Add, "1/" + high, "1/" + most}, {rat.Add, most, "1/" + most},
		{rat.Mul, half, half}, {rat.Mul, "-1/" + half, "1/" + half}, {rat.Mul, most, "2"}, {rat.Mul, "1/2", "1/" + most}, {rat.Mul, most, most}, {rat.Mul, "2/" + most, "-1/7"},
		{rat.Div, most, "1/2"}, {rat.Div, "1/" + most, "2"}, {rat.Div, half, "1/" + half}, {rat.Div, "1/" + most, most}, {rat.Div, most, "-1/" + most},
	} {
		refuse(t, api.ErrOver)(x.call(x.a, x.b))
	}
}

// TestLongWays checks that only the result counts: the products and sums on the way have more than 4,000 digits.
func TestLongWays(t *testing.T) { // P2.3, P2.4
	expect(t, most)(rat.Add(most+"/2", most+"/2"))
	expect(t, "-"+most)(rat.Sub("-"+most+"/2", most+"/2"))
	expect(t, "2/"+most)(rat.Add("1/"+most, "1/"+most))
	expect(t, "1")(rat.Mul(most+"/"+high, high+"/"+most))
	expect(t, "-1")(rat.Div("-"+most+"/"+high, most+"/"+high))
	expect(t, "4/7")(rat.Div("4/"+most, "7/"+most))
	// 7 * 4*10^3999 is greater by 1 than 3 * 93..3.
	a, b := "4"+zeros(api.MaxDigits-1)+"/3", "9"+threes(api.MaxDigits-1)+"/7"
	expect(t, "1/21")(rat.Sub(a, b))
	expect(t, "-1/21")(rat.Add("-"+a, b))
	expect(t, "-1/21")(rat.Sub(b, a))
	if c, e := rat.Cmp(b, a); c != -1 || e != api.OK {
		t.Error(c, e)
	}
}

// TestLongDenominators adds (L-G)/(G*L) and (G-M)/(G*M) for L = M+1: the common denominator has about 5,000 digits, but the sum is 1/(L*M).
func TestLongDenominators(t *testing.T) { // P2.3
	ok := must(t)
	g, m := ok(rat.Pow("3", 2095)), ten(1999)
	l := ok(rat.Add(m, "1"))
	a := ok(rat.Div(ok(rat.Sub(l, g)), ok(rat.Mul(g, l))))
	b := ok(rat.Div(ok(rat.Sub(g, m)), ok(rat.Mul(g, m))))
	want := "1/1" + zeros(1998) + "1" + zeros(1999)
	expect(t, want)(rat.Add(a, b))
	expect(t, "-"+want)(rat.Sub(ok(rat.Neg(b)), a))
	expect(t, a)(rat.Sub(want, b))
}

func TestOrderOfLongNumbers(t *testing.T) { // P2.4
	ascending := []api.Num{"-" + most, "-" + almost, "-" + most + "/2", "-" + most + "/" + high, "-1", "-" + almost + "/" + most, "-1/3", "-1/" + high, "-1/" + most, "0",
		"1/" + most, "1/" + almost, "1/" + high, "1/1000000000", "1/3", "2/5", "999999999/1000000000", almost + "/" + most, "1", most + "/" + almost, almost + "/" + nines(api.MaxDigits-1) + "7", "2", most + "/" + high, "10", high, almost + "/7", most + "/2", almost, most}
	for i, a := range ascending {
		for j, b := range ascending {
			if c, e := rat.Cmp(a, b); c != cmp.Compare(i, j) || e != api.OK {
				t.Error(short(a), short(b), c, e)
			}
			expect(t, ascending[min(i, j)])(rat.Min(a, b))
			expect(t, ascending[max(i, j)])(rat.Max(a, b))
		}
	}
}

func TestRounding(t *testing.T) { // P2.4
	for _, x := range []struct{ a, floor, ceil api.Num }{
		{"0", "0", "0"}, {"1/2", "0", "1"}, {"-1/2", "-1", "0"}, {"3/2", "1", "2"}, {"-3/2", "-2", "-1"}, {"7", "7", "7"}, {"-7", "-7", "-7"}, {"1/" + most, "0", "1"}, {"-1/" + most, "-1", "0"},
		{most, most, most}, {"-" + most, "-" + most, "-" + most}, {most + "/" + almost, "1", "2"}, {"-" + almost + "/" + most, "-1", "0"}, {"-" + most + "/" + high, "-10", "-9"},
		{most + "/2", "4" + nines(api.MaxDigits-1), "5" + zeros(api.MaxDigits-1)}, {"-" + most + "/2", "-5" + zeros(api.MaxDigits-1), "-4" + nines(api.MaxDigits-1)},
		{"1999999999/1000000000", "1", "2"}, {"1000000000000000000000/3", threes(21), threes(20) + "4"}, {"-1000000000000000000000/3", "-" + threes(20) + "4", "-" + threes(21)},
	} {
		expect(t, x.floor)(rat.Floor(x.a))
		expect(t, x.ceil)(rat.Ceil(x.a))
	}
}

func TestSigns(t *testing.T) { // P2.4
	for a, want := range map[api.Num]int{"0": 0, "1": 1, "-1": -1, "1/2": 1, "-3/2": -1, most: 1, "-" + most: -1, "1/" + most: 1, "-1/" + most: -1} {
		if s, e := rat.Sign(a); s != want || e != api.OK {
			t.Error(short(a), s, e)
		}
	}
}
