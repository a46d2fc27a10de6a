package coin_test

import (
	"reflect"
	"strconv"
	"strings"
	"testing"

	"privhouse/api"
	"privhouse/bits"
	"privhouse/coin"
	"privhouse/rat"
)

// must returns what a call of a lower layer returns, which has no error.
func must[T any](x T, e api.Errno) T {
	if e != api.OK {
		panic(e)
	}
	return x
}

// expect checks that a call has succeeded with a value.
func expect[T any](t *testing.T, want T) func(x T, e api.Errno) {
	return func(x T, e api.Errno) {
		t.Helper()
		if e != api.OK || !reflect.DeepEqual(x, want) {
			t.Error(x, e, "instead of", want)
		}
	}
}

// refused checks that all three functions return an error, and nothing else, for a text that is no probability.
func refused(t *testing.T, p api.Num, b api.Bits, n int, want api.Errno) {
	t.Helper()
	if draw, e := coin.Draw(p, b); draw != (api.Draw{}) || e != want {
		t.Error("Draw", p, b, draw, e, "instead of", want)
	}
	if late, e := coin.Late(p, n); late != "" || e != want {
		t.Error("Late", p, n, late, e, "instead of", want)
	}
	if law, e := coin.Law(p, n); len(law) != 0 || e != want {
		t.Error("Law", p, n, law, e, "instead of", want)
	}
}

// decided and late are the results of draws.
func decided(value, used int) api.Draw { return api.Draw{Done: true, Value: value, Used: used} }
func late(used int) api.Draw           { return api.Draw{Used: used} }

// share is a small probability n/d, in lowest terms.
type share struct{ n, d int }

func (p share) text() api.Num {
	if p.d == 1 {
		return rat.Int(p.n)
	}
	return api.Num(strconv.Itoa(p.n) + "/" + strconv.Itoa(p.d))
}

// shares returns all probabilities with denominators up to a limit.
func shares(limit int) []share {
	var l []share
	for d := 1; d <= limit; d++ {
		for n := 0; n <= d; n++ {
			if rat.Check(share{n, d}.text()) == api.OK {
				l = append(l, share{n, d})
			}
		}
	}
	return l
}

// toss tosses a coin as the terms say: it looks at the cell of every prefix, from the shortest one on.
func (p share) toss(b api.Bits) api.Draw {
	for k, used := 0, 0; ; used++ {
		// The cell reaches from k/2^used to (k+1)/2^used.
		place := p.n << used
		switch {
		case k*p.d >= place:
			return decided(0, used)
		case (k+1)*p.d <= place:
			return decided(1, used)
		case used == len(b):
			return late(used)
		}
		k = 2*k + int(b[used]-'0')
	}
}

// law counts the bit strings of n bits by the results of tossing a coin with them.
func (p share) law(n int) api.Dist {
	count := map[string]int{}
	for _, b := range must(bits.All(n)) {
		count[keyOf(p.toss(b))]++
	}
	return distribution(count, n)
}

// keyOf returns the key of a result in a distribution.
func keyOf(d api.Draw) string {
	if d.Done {
		return strconv.Itoa(d.Value)
	}
	return "late"
}

// distribution returns the probabilities of results of which there are so many among the bit strings of n bits.
func distribution(count map[string]int, n int) api.Dist {
	var d api.Dist
	for _, key := range []string{"0", "1", "late"} {
		if many := count[key]; many > 0 {
			d = append(d, api.Mass{Key: key, P: must(rat.Make(rat.Int(many), rat.Int(1<<n)))})
		}
	}
	return d
}

// repeated returns a text so many times.
func repeated(text string, n int) api.Num { return api.Num(strings.Repeat(text, n)) }

// longest returns probabilities with as many digits as are allowed.
func longest() []api.Num {
	const most = api.MaxParam
	ten := "1" + repeated("0", most-1)
	return []api.Num{
		"1/" + ten, "1/" + repeated("9", most), repeated("9", most-1) + "/" + ten, "7" + repeated("0", most-2) + "1/" + repeated("9", most),
		repeated("9", most-1) + "8/" + repeated("9", most), repeated("3", most-1) + "2/" + repeated("9", most), "6" + repeated("0", most-2) + "7/" + repeated("9", most),
	}
}

// several returns probabilities of all kinds, without 0 and 1.
func several() []api.Num {
	l := append(longest(),
		"1/2", "1/3", "2/3", "3/4", "1/4", "5/8", "1/5", "7/10", "1/1024", "1023/1024", "999999/1000000",
		"12345678901234567890/98765432109876543211", must(rat.Pow("1/2", 256)), must(rat.Pow("1/2", 257)), must(rat.Pow("1/2", 300)), must(rat.Pow("2/3", 256)),
	)
	for _, n := range []int{255, 256, 257} {
		l = append(l, must(rat.Sub("1", must(rat.Pow("1/2", n)))))
	}
	return l
}

// expansion returns the first n binary digits of a probability less than 1, and whether others than 0 follow.
func expansion(p api.Num, n int) (digits api.Bits, more bool) {
	scaled := must(rat.Mul(p, must(rat.Pow("2", n))))
	whole := must(rat.Floor(scaled))
	return must(bits.Word(whole, n)), whole != scaled
}
