package rat_test

import (
	"math"
	"strconv"
	"testing"

	"privhouse/api"
	"privhouse/rat"
)

// invalid returns texts that are no rational numbers, with the error of Check.
func invalid() map[api.Num]api.Errno {
	out := map[api.Num]api.Errno{
		long: api.ErrOver, "-" + long: api.ErrOver, "1/" + long: api.ErrOver, "-1/" + long: api.ErrOver, long + "/3": api.ErrOver,
		long + "/" + long: api.ErrOver, long + "/2": api.ErrOver, "2/" + long: api.ErrOver, most + "9/" + most: api.ErrOver, most + "/" + most + "9": api.ErrOver,
	}
	for _, a := range []api.Num{
		"", "-", "-0", "+1", "00", "01", "-01", "--1", "1-", " 1", "1 ", "1\n", "x", "1x", "1.5", "1e3", "0x1", "1_0", "\u0661", "1\x00", "1\xff",
		"/", "1/", "/2", "-/2", "-1/", "1//2", "1/2/3", "1/2/", "1/-2", "-1/-2", "1/+2", "1 /2", "1/ 2", "1/x", "x/2", "1/2x", "1/02", "01/2", "-01/2", "1/00", "1/01",
		"0/1", "0/2", "0/5", "-0/5", "1/0", "0/0", "-1/0", "1/1", "3/1", "-3/1",
		"2/4", "-2/4", "4/2", "3/3", "6/15", "-15/6", "1000000000/2", high + "/10", "10/" + high, most + "/" + most, most + "/9", "-9/" + most,
		long + "x", "0" + most, "-0" + most, long + "/1", long + "/0", "-" + long + "/1", long + "/x", long + "/", "x/" + long, "0/" + long, "-0/" + long, "01/" + long, "1/0" + most, "1/" + long + "/2", long + "/02",
	} {
		out[a] = api.ErrForm
	}
	return out
}

func TestCheck(t *testing.T) { // P2.1
	for _, a := range []api.Num{
		"0", "1", "-1", "9", "-12", "10", "3/2", "-1/3", "1/2", "2/3", "-9/10", "1000000000/999999999", most, "-" + most, "1/" + most, "-1/" + most, most + "/2", "-" + most + "/" + high, high + "/" + most, most + "/" + almost,
	} {
		if e := rat.Check(a); e != api.OK {
			t.Error(short(a), e)
		}
	}
	for a, want := range invalid() {
		if e := rat.Check(a); e != want {
			t.Error(short(a), e, want)
		}
	}
}

func TestCheckFindsCommonDivisors(t *testing.T) { // P2.1
	for n := -40; n <= 40; n++ {
		for d := 2; d <= 40; d++ {
			want := api.ErrForm
			a := api.Num(strconv.Itoa(n) + "/" + strconv.Itoa(d))
			if a == (plain{n, d}).text() {
				want = api.OK
			}
			if e := rat.Check(a); e != want {
				t.Error(a, e)
			}
		}
	}
}

func TestErrorsOfOneArgument(t *testing.T) { // P2.1
	for a, want := range invalid() {
		for _, f := range unaries() {
			if c, e := f.call(a); c != "" || e != want {
				t.Error(f.name, short(a), short(c), e)
			}
		}
		for _, n := range []int{0, 1, 2, -1, math.MinInt, math.MaxInt} {
			if c, e := rat.Pow(a, n); c != "" || e != want {
				t.Error("Pow", short(a), n, short(c), e)
			}
		}
		if n, e := rat.Sign(a); n != 0 || e != want {
			t.Error("Sign", short(a), n, e)
		}
		if n, d, e := rat.Parts(a); n != "" || d != "" || e != want {
			t.Error("Parts", short(a), short(n), short(d), e)
		}
	}
}

func TestErrorsOfEitherArgument(t *testing.T) { // P2.1
	for a, want := range invalid() {
		for _, b := range []api.Num{"0", "1", "-3/2", most} {
			for _, f := range binaries() {
				if c, e := f.call(a, b); c != "" || e != want {
					t.Error(f.name, short(a), short(b), short(c), e)
				}
				if c, e := f.call(b, a); c != "" || e != want {
					t.Error(f.name, short(b), short(a), short(c), e)
				}
			}
			if n, e := rat.Cmp(a, b); n != 0 || e != want {
				t.Error("Cmp", short(a), short(b), n, e)
			}
			if n, e := rat.Cmp(b, a); n != 0 || e != want {
				t.Error("Cmp", short(b), short(a), n, e)
			}
		}
	}
}

func TestTheFirstArgumentCounts(t *testing.T) { // P2.1
	over := long + "/3"
	for _, f := range binaries() {
		for _, x := range []api.Num{"x", "2/4", "-0", ""} {
			if c, e := f.call(x, over); c != "" || e != api.ErrForm {
				t.Error(f.name, short(c), e)
			}
			if c, e := f.call(over, x); c != "" || e != api.ErrOver {
				t.Error(f.name, short(c), e)
			}
		}
	}
	if n, e := rat.Cmp("2/4", over); n != 0 || e != api.ErrForm {
		t.Error(n, e)
	}
	if n, e := rat.Cmp(over, "2/4"); n != 0 || e != api.ErrOver {
		t.Error(n, e)
	}
}

func TestMake(t *testing.T) { // P2.2
	for _, x := range []struct {
		n, d, want api.Num
		err        api.Errno
	}{
		{"-6", "4", "-3/2", api.OK}, {"6", "4", "3/2", api.OK}, {"0", "5", "0", api.OK}, {"0", "1", "0", api.OK}, {"0", most, "0", api.OK}, {"7", "1", "7", api.OK}, {"-7", "7", "-1", api.OK}, {"-84", "7", "-12", api.OK}, {"1", "3", "1/3", api.OK},
		{most, "1", most, api.OK}, {"-" + most, most, "-1", api.OK}, {most, "9", ones(api.MaxDigits), api.OK}, {"1", most, "1/" + most, api.OK}, {"-" + most, high, "-" + most + "/" + high, api.OK}, {high, "-1", "", api.ErrForm},
		{"1", "0", "", api.ErrZero}, {"0", "0", "", api.ErrZero}, {"-" + most, "0", "", api.ErrZero},
		{"1/2", "3", "", api.ErrForm}, {"3", "1/2", "", api.ErrForm}, {"4/1", "3", "", api.ErrForm}, {"-0", "3", "", api.ErrForm}, {"", "3", "", api.ErrForm}, {"3", "", "", api.ErrForm}, {"-", "3", "", api.ErrForm}, {"03", "3", "", api.ErrForm}, {"-03", "3", "", api.ErrForm}, {"+3", "3", "", api.ErrForm},
		{"3", "-3", "", api.ErrForm}, {"3", "03", "", api.ErrForm}, {"3", "00", "", api.ErrForm}, {"3", "-0", "", api.ErrForm}, {"3", "x", "", api.ErrForm},
		{long, "3", "", api.ErrOver}, {"-" + long, "3", "", api.ErrOver}, {"3", long, "", api.ErrOver}, {long, long, "", api.ErrOver}, {"0", long, "", api.ErrOver},
		{"x", "0", "", api.ErrForm}, {"x", long, "", api.ErrForm}, {"-0", long, "", api.ErrForm}, {long + "x", "1", "", api.ErrForm}, {"0" + most, "1", "", api.ErrForm}, {"-0" + most, "0", "", api.ErrForm}, {"1", "0" + most, "", api.ErrForm}, {"1", long + "x", "", api.ErrForm},
		{long, "0", "", api.ErrOver}, {long, "x", "", api.ErrOver}, {"-" + long, "", "", api.ErrOver},
	} {
		if c, e := rat.Make(x.n, x.d); c != x.want || e != x.err {
			t.Error(short(x.n), short(x.d), short(c), e)
		}
	}
}

func ones(n int) api.Num {
	out := []byte(zeros(n))
	for i := range out {
		out[i] = '1'
	}
	return api.Num(out)
}

func TestMakeReduces(t *testing.T) { // P2.2
	for n := -60; n <= 60; n++ {
		for d := 1; d <= 60; d++ {
			expect(t, plain{n, d}.text())(rat.Make(rat.Int(n), rat.Int(d)))
		}
	}
}

func TestParts(t *testing.T) { // P2.2
	for a, want := range map[api.Num][2]api.Num{
		"-3/2": {"-3", "2"}, "3/2": {"3", "2"}, "0": {"0", "1"}, "1": {"1", "1"}, "-12": {"-12", "1"}, most: {most, "1"}, "-" + most + "/" + high: {"-" + most, high}, "1/" + most: {"1", most},
	} {
		if n, d, e := rat.Parts(a); n != want[0] || d != want[1] || e != api.OK {
			t.Error(short(a), short(n), short(d), e)
		}
	}
}

func TestInts(t *testing.T) { // P2.2
	for n, want := range map[int]api.Num{
		0: "0", 1: "1", -1: "-1", -12: "-12", 10: "10", 1000000000: "1000000000", math.MaxInt: "9223372036854775807", math.MinInt: "-9223372036854775808", math.MinInt + 1: "-9223372036854775807",
	} {
		if a := rat.Int(n); a != want || rat.Check(a) != api.OK {
			t.Error(n, a)
		}
	}
}
