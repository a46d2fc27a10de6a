package nat_test

import (
	"math"
	"strconv"
	"strings"
	"testing"

	"privhouse/api"
	"privhouse/nat"
)

// nines is the greatest natural number, long has one digit more, tens is the least number of 4,000 digits.
var (
	nines = api.Num(strings.Repeat("9", api.MaxDigits))
	long  = nines + "9"
	tens  = "1" + api.Num(strings.Repeat("0", api.MaxDigits-1))
)

// short returns a number as it may stand in a message.
func short(a api.Num) string {
	if len(a) > 50 {
		return string(a[:20]) + ".. of " + strconv.Itoa(len(a)) + " digits"
	}
	return strconv.Quote(string(a))
}

type binary struct {
	name string
	call func(a, b api.Num) (api.Num, api.Errno)
}

// binaries lists the functions of two numbers; DivMod stands there twice.
func binaries() []binary {
	return []binary{
		{"Add", nat.Add}, {"Sub", nat.Sub}, {"Mul", nat.Mul}, {"Gcd", nat.Gcd},
		{"DivMod q", func(a, b api.Num) (api.Num, api.Errno) { q, _, e := nat.DivMod(a, b); return q, e }},
		{"DivMod r", func(a, b api.Num) (api.Num, api.Errno) { _, r, e := nat.DivMod(a, b); return r, e }},
	}
}

// must returns a result that has no error.
func must(t *testing.T) func(a api.Num, e api.Errno) api.Num {
	return func(a api.Num, e api.Errno) api.Num {
		t.Helper()
		if e != api.OK || nat.Check(a) != api.OK {
			t.Fatal(short(a), e)
		}
		return a
	}
}

func invalid() map[api.Num]api.Errno {
	return map[api.Num]api.Errno{
		"": api.ErrForm, "00": api.ErrForm, "007": api.ErrForm, "-1": api.ErrForm, "-0": api.ErrForm, "+1": api.ErrForm,
		" 1": api.ErrForm, "1 ": api.ErrForm, "1\n": api.ErrForm, "1/2": api.ErrForm, "1.0": api.ErrForm, "x": api.ErrForm,
		"1x": api.ErrForm, "1e3": api.ErrForm, "1_000": api.ErrForm, "/": api.ErrForm, ":": api.ErrForm, "1\x00": api.ErrForm,
		"\u0661": api.ErrForm, "\uff11": api.ErrForm, "1\xff": api.ErrForm,
		nines + "x": api.ErrForm, long + "x": api.ErrForm, "0" + nines: api.ErrForm, "0" + long: api.ErrForm, "-" + long: api.ErrForm,
		long: api.ErrOver, tens + "0": api.ErrOver, nines + nines: api.ErrOver,
	}
}

func TestCheck(t *testing.T) { // P1.1
	for _, a := range []api.Num{"0", "1", "9", "10", "123456789", "1000000000", "18446744073709551616", nines, tens} {
		if e := nat.Check(a); e != api.OK {
			t.Error(short(a), e)
		}
	}
	for a, want := range invalid() {
		if e := nat.Check(a); e != want {
			t.Error(short(a), e, want)
		}
	}
}

func TestErrorsOfArguments(t *testing.T) { // P1.1
	for a, want := range invalid() {
		for _, f := range binaries() {
			for _, b := range []api.Num{"0", "1", nines} {
				if c, e := f.call(a, b); c != "" || e != want {
					t.Error(f.name, short(a), short(b), short(c), e)
				}
				if c, e := f.call(b, a); c != "" || e != want {
					t.Error(f.name, short(b), short(a), short(c), e)
				}
			}
		}
		for _, n := range []int{0, 1, 7, -1, math.MinInt, math.MaxInt} {
			if c, e := nat.Pow(a, n); c != "" || e != want {
				t.Error("Pow", short(a), n, short(c), e)
			}
		}
		if n, e := nat.ToInt(a); n != 0 || e != want {
			t.Error("ToInt", short(a), n, e)
		}
		if n, e := nat.Bits(a); n != 0 || e != want {
			t.Error("Bits", short(a), n, e)
		}
		if nat.Cmp(a, "5") != 0 || nat.Cmp("5", a) != 0 || nat.Cmp(a, a) != 0 || nat.Cmp(a, "") != 0 {
			t.Error("Cmp", short(a))
		}
	}
}

func TestTheFirstErrorCounts(t *testing.T) { // P1.1
	for _, f := range binaries() {
		if c, e := f.call("x", long); c != "" || e != api.ErrForm {
			t.Error(f.name, short(c), e)
		}
		if c, e := f.call(long, "x"); c != "" || e != api.ErrOver {
			t.Error(f.name, short(c), e)
		}
		if c, e := f.call("01", "0"); c != "" || e != api.ErrForm {
			t.Error(f.name, short(c), e)
		}
	}
}

func TestSums(t *testing.T) { // P1.2
	ok := must(t)
	for _, x := range pairs(300, 80) {
		sum := paperSum(x[0], x[1])
		if c := ok(nat.Add(x[0], x[1])); c != sum {
			t.Error(x, c)
		}
		if c := ok(nat.Sub(sum, x[0])); c != x[1] {
			t.Error(x, c)
		}
	}
	almost := nines[:api.MaxDigits-1] + "8"
	if ok(nat.Add(almost, "1")) != nines || ok(nat.Add(nines, "0")) != nines || ok(nat.Sub(nines, "1")) != almost {
		t.Error("the greatest sums")
	}
	for _, x := range [][2]api.Num{{nines, "1"}, {"1", nines}, {nines, nines}, {almost, "2"}} {
		if c, e := nat.Add(x[0], x[1]); c != "" || e != api.ErrOver {
			t.Error(short(x[0]), short(x[1]), short(c), e)
		}
	}
}

func TestDifferences(t *testing.T) { // P1.2
	for _, x := range [][3]api.Num{{"0", "0", "0"}, {"7", "0", "7"}, {"7", "7", "0"}, {"1000000000", "1", "999999999"}, {"1000000000000000000", "999999999999999999", "1"}, {nines, nines, "0"}, {nines, "0", nines}} {
		if c, e := nat.Sub(x[0], x[1]); c != x[2] || e != api.OK {
			t.Error(short(x[0]), short(x[1]), short(c), e)
		}
	}
	for _, x := range [][2]api.Num{{"1", "2"}, {"0", "1"}, {"9", "10"}, {"999999999", "1000000000"}, {"1999999999", "2000000000"}, {tens, nines}} {
		if c, e := nat.Sub(x[0], x[1]); c != "" || e != api.ErrRange {
			t.Error(short(x[0]), short(x[1]), short(c), e)
		}
	}
}

func TestProducts(t *testing.T) { // P1.2
	ok := must(t)
	for _, x := range append(pairs(300, 80), pairs(10, 1500)...) {
		if c := ok(nat.Mul(x[0], x[1])); c != paperProduct(x[0], x[1]) {
			t.Error(short(x[0]), short(x[1]), short(c))
		}
	}
	half := nines[:api.MaxDigits/2]
	if c := ok(nat.Mul(half, half)); c != nines[:api.MaxDigits/2-1]+"8"+tens[1:api.MaxDigits/2]+"1" {
		t.Error(short(c))
	}
	if ok(nat.Mul(nines, "1")) != nines || ok(nat.Mul("0", nines)) != "0" {
		t.Error("the greatest factor")
	}
}

func TestProductsThatAreTooLong(t *testing.T) { // P1.2
	half := tens[:api.MaxDigits/2]
	for _, x := range [][2]api.Num{{nines, "2"}, {"2", nines}, {nines, nines}, {half + "0", half + "0"}, {nines[:api.MaxDigits/2], nines[:api.MaxDigits/2+1]}, {"10", tens}, {"5", "2" + tens[1:]}} {
		if c, e := nat.Mul(x[0], x[1]); c != "" || e != api.ErrOver {
			t.Error(short(x[0]), short(x[1]), short(c), e)
		}
	}
	if c, e := nat.Mul(half+"0", half); c != tens || e != api.OK {
		t.Error(short(c), e)
	}
}

// quotients returns pairs for divisions; the dividends of some are near a multiple of the divisor.
func quotients(t *testing.T) [][2]api.Num {
	ok := must(t)
	out := append(pairs(300, 120), pairs(10, 3000)...)
	for _, x := range pairs(4000, 60) {
		product := ok(nat.Mul(x[0], x[1]))
		out = append(out, [2]api.Num{product, x[1]}, [2]api.Num{ok(nat.Add(product, "1")), x[1]})
		if product != "0" {
			out = append(out, [2]api.Num{ok(nat.Sub(product, "1")), x[1]})
		}
	}
	return append(out, [2]api.Num{nines, nines}, [2]api.Num{nines, tens}, [2]api.Num{nines, "3"}, [2]api.Num{tens, "999999999999999999"})
}

func TestQuotients(t *testing.T) { // P1.2
	for _, x := range quotients(t) {
		q, r, e := nat.DivMod(x[0], x[1])
		if x[1] == "0" {
			if q != "" || r != "" || e != api.ErrZero {
				t.Error(short(x[0]), q, r, e)
			}
			continue
		}
		if e != api.OK || nat.Check(q) != api.OK || nat.Cmp(r, x[1]) != -1 || paperSum(paperProduct(q, x[1]), r) != x[0] {
			t.Error(short(x[0]), short(x[1]), short(q), short(r), e)
		}
	}
	for _, a := range []api.Num{"0", "5", nines} {
		if q, r, e := nat.DivMod(a, "0"); q != "" || r != "" || e != api.ErrZero {
			t.Error(short(a), q, r, e)
		}
	}
	if q, r, e := nat.DivMod("1000000016000000070", "1000000009"); q != "1000000007" || r != "7" || e != api.OK {
		t.Error(q, r, e)
	}
}

func TestPowers(t *testing.T) { // P1.2
	ok := must(t)
	for _, a := range []api.Num{"0", "1", "2", "3", "10", "999999999", "1000000000", "123456789012345678901234567890"} {
		want := api.Num("1")
		for n := range 40 {
			if c := ok(nat.Pow(a, n)); c != want {
				t.Error(a, n, c)
			}
			want = paperProduct(want, a)
		}
		if c, e := nat.Pow(a, -1); c != "" || e != api.ErrRange {
			t.Error(a, c, e)
		}
	}
	for _, x := range []struct {
		a    api.Num
		n    int
		want api.Num
		err  api.Errno
	}{
		{"2", 100, "1267650600228229401496703205376", api.OK}, {"10", api.MaxDigits - 1, tens, api.OK}, {"10", api.MaxDigits, "", api.ErrOver},
		{nines, 0, "1", api.OK}, {nines, 1, nines, api.OK}, {nines, 2, "", api.ErrOver}, {nines, 3, "", api.ErrOver},
		{"0", math.MaxInt, "0", api.OK}, {"1", math.MaxInt, "1", api.OK}, {"2", math.MaxInt, "", api.ErrOver}, {"2", 1 << 62, "", api.ErrOver},
		{"2", 13288, "", api.ErrOver}, {"5", math.MinInt, "", api.ErrRange}, {"0", -1, "", api.ErrRange},
	} {
		if c, e := nat.Pow(x.a, x.n); c != x.want || e != x.err {
			t.Error(short(x.a), x.n, short(c), e)
		}
	}
	if c := ok(nat.Pow("2", 13287)); len(c) != api.MaxDigits {
		t.Error(short(c))
	}
}

func TestOrder(t *testing.T) { // P1.3
	ascending := []api.Num{"0", "1", "9", "10", "99", "100", "999999999", "1000000000", "1000000001", "1999999999", "2000000000", "999999999999999999", "1000000000000000000", tens, paperSum(tens, "1"), nines}
	for i, a := range ascending {
		for j, b := range ascending {
			want := 0
			if i < j {
				want = -1
			} else if i > j {
				want = 1
			}
			if got := nat.Cmp(a, b); got != want {
				t.Error(short(a), short(b), got)
			}
		}
	}
}

func TestInts(t *testing.T) { // P1.3
	for _, n := range []int{0, 1, 9, 10, 999999999, 1000000000, math.MaxInt32, math.MaxInt - 1, math.MaxInt} {
		a, e := nat.FromInt(n)
		if string(a) != strconv.Itoa(n) || e != api.OK {
			t.Error(n, a, e)
		}
		if back, e := nat.ToInt(a); back != n || e != api.OK {
			t.Error(n, back, e)
		}
	}
	for _, n := range []int{-1, -10, math.MinInt32, math.MinInt} {
		if a, e := nat.FromInt(n); a != "" || e != api.ErrRange {
			t.Error(n, a, e)
		}
	}
	for _, a := range []api.Num{"9223372036854775808", "9223372036854775809", "10000000000000000000", "18446744073709551616", "18446744073709551617", nines} {
		if n, e := nat.ToInt(a); n != 0 || e != api.ErrRange {
			t.Error(short(a), n, e)
		}
	}
}

func TestSemiring(t *testing.T) { // P1.4
	ok := must(t)
	g := generator(11)
	for _, x := range pairs(300, 90) {
		a, b, c := x[0], x[1], g.number(90)
		if ok(nat.Add(a, b)) != ok(nat.Add(b, a)) || ok(nat.Mul(a, b)) != ok(nat.Mul(b, a)) {
			t.Error("not commutative", a, b)
		}
		if ok(nat.Add(ok(nat.Add(a, b)), c)) != ok(nat.Add(a, ok(nat.Add(b, c)))) {
			t.Error("Add not associative", a, b, c)
		}
		if ok(nat.Mul(ok(nat.Mul(a, b)), c)) != ok(nat.Mul(a, ok(nat.Mul(b, c)))) {
			t.Error("Mul not associative", a, b, c)
		}
		if ok(nat.Mul(a, ok(nat.Add(b, c)))) != ok(nat.Add(ok(nat.Mul(a, b)), ok(nat.Mul(a, c)))) {
			t.Error("not distributive", a, b, c)
		}
	}
}

// common returns pairs with known common divisors among them, and consecutive Fibonacci numbers, which take the most divisions.
func common(t *testing.T) [][2]api.Num {
	ok := must(t)
	g := generator(13)
	out := append(pairs(200, 100), pairs(6, 1900)...)
	for _, x := range pairs(300, 60) {
		f := g.number(60)
		out = append(out, [2]api.Num{ok(nat.Mul(x[0], f)), ok(nat.Mul(x[1], f))})
	}
	a, b := api.Num("0"), api.Num("1")
	for range 600 {
		a, b = b, ok(nat.Add(a, b))
	}
	long := ok(nat.Pow("3", 8000))
	return append(out, [2]api.Num{a, b}, [2]api.Num{nines, nines}, [2]api.Num{nines, tens}, [2]api.Num{nines, "999999999"}, [2]api.Num{long, ok(nat.Add(long, "1"))})
}

func TestCommonDivisors(t *testing.T) { // P1.2, P1.5
	for _, x := range common(t) {
		a, b := x[0], x[1]
		g, e := nat.Gcd(a, b)
		if other, _ := nat.Gcd(b, a); e != api.OK || other != g {
			t.Fatal(short(a), short(b), short(g), e)
		}
		if g == "0" {
			if a != "0" || b != "0" {
				t.Error(short(a), short(b))
			}
			continue
		}
		p, r, _ := nat.DivMod(a, g)
		q, s, _ := nat.DivMod(b, g)
		if r != "0" || s != "0" || plainDivisor(t, p, q) != "1" {
			t.Error(short(a), short(b), short(g))
		}
		if one, e := nat.Gcd(p, q); one != "1" || e != api.OK {
			t.Error(short(p), short(q), short(one), e)
		}
	}
	for _, x := range [][3]api.Num{{"462", "1071", "21"}, {"0", "5", "5"}, {"5", "0", "5"}, {"0", "0", "0"}, {"17", "4", "1"}, {"1", "0", "1"}, {nines, "0", nines}, {"0", nines, nines}, {tens, "1", "1"}} {
		if c, e := nat.Gcd(x[0], x[1]); c != x[2] || e != api.OK {
			t.Error(short(x[0]), short(x[1]), short(c), e)
		}
	}
}

// plainDivisor finds the greatest common divisor by plain divisions.
func plainDivisor(t *testing.T, a, b api.Num) api.Num {
	for b != "0" {
		_, r, e := nat.DivMod(a, b)
		if e != api.OK {
			t.Fatal(short(a), short(b), e)
		}
		a, b = b, r
	}
	return a
}

func TestBits(t *testing.T) { // P1.3, P1.6
	power := api.Num("1")
	for n := range 13288 {
		if n > 300 && n < 13200 && n%97 != 0 {
			power = paperSum(power, power)
			continue
		}
		if got, e := nat.Bits(power); got != n+1 || e != api.OK {
			t.Error(n, got, e)
		}
		below, _ := nat.Sub(power, "1")
		if got, e := nat.Bits(below); got != n || e != api.OK {
			t.Error(n, got, e)
		}
		power = paperSum(power, power)
	}
	if got, e := nat.Bits(nines); got != 13288 || e != api.OK {
		t.Error(got, e)
	}
	for a, want := range map[api.Num]int{"0": 0, "1": 1, "2": 2, "8": 4, "999999999": 30, "1000000000": 30, "1073741824": 31, "9223372036854775807": 63} {
		if got, e := nat.Bits(a); got != want || e != api.OK {
			t.Error(a, got, e)
		}
	}
}

func TestBitsAreTheSmallestExponent(t *testing.T) { // P1.6
	ok := must(t)
	for _, x := range pairs(200, 300) {
		n, e := nat.Bits(x[0])
		if e != api.OK || nat.Cmp(x[0], ok(nat.Pow("2", n))) != -1 {
			t.Error(short(x[0]), n, e)
		}
		if n > 0 && nat.Cmp(x[0], ok(nat.Pow("2", n-1))) == -1 {
			t.Error(short(x[0]), n)
		}
	}
}

func TestSameCallsSameResults(t *testing.T) { // P2
	for _, f := range binaries() {
		for _, x := range pairs(50, 200) {
			a, e := f.call(x[0], x[1])
			if b, d := f.call(x[0], x[1]); a != b || d != e {
				t.Error(f.name, x)
			}
		}
	}
}
