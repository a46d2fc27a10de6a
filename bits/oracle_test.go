package bits_test

import (
	"strings"
	"testing"

	"privhouse/api"
)

// zeros and ones return bit strings of so many equal bits.
func zeros(n int) api.Bits { return api.Bits(strings.Repeat("0", n)) }
func ones(n int) api.Bits  { return api.Bits(strings.Repeat("1", n)) }

// mixed returns n bits that follow no short rule.
func mixed(n int) api.Bits {
	b, state := make([]byte, n), uint32(n+1)
	for i := range b {
		state = state*1664525 + 1013904223
		b[i] = '0' + byte(state>>31)
	}
	return api.Bits(b)
}

// samples returns bit strings of every length up to MaxBits.
func samples() []api.Bits {
	l := []api.Bits{""}
	for n := 1; n <= api.MaxBits; n++ {
		l = append(l, zeros(n), ones(n), mixed(n), zeros(n-1)+"1", "1"+zeros(n-1), mixed(n/2)+zeros(n-n/2), zeros(n-n/2)+mixed(n/2))
	}
	return l
}

// spoiled returns texts that have one other character in a bit string, at each place of it.
func spoiled(b api.Bits) []api.Bits {
	var l []api.Bits
	for i := range len(b) {
		for _, c := range []string{"2", "/", ":", " ", "a", "-", "\x00", "\xb0", "\xff", "\n", "é", "٠"} {
			l = append(l, b[:i]+api.Bits(c)+b[i+1:])
		}
	}
	return append(l, b+"2", b+" ", " "+b, b+"\n", "+"+b, b+"\x00")
}

// doubled returns twice a number, and one more if asked for, as one computes it with pen and paper.
func doubled(k api.Num, more byte) api.Num {
	digits, carry := []byte(k), more
	for i := len(digits) - 1; i >= 0; i-- {
		x := 2*(digits[i]-'0') + carry
		digits[i], carry = '0'+x%10, x/10
	}
	if carry > 0 {
		return "1" + api.Num(digits)
	}
	return api.Num(digits)
}

// valueOf returns the number of a bit string.
func valueOf(b api.Bits) api.Num {
	k := api.Num("0")
	for i := range len(b) {
		k = doubled(k, b[i]-'0')
	}
	return k
}

// fractionOf returns the number of bits behind a binary point, in lowest terms: if the last bit is 1, the numerator is odd.
func fractionOf(b api.Bits) api.Num {
	b = api.Bits(strings.TrimRight(string(b), "0"))
	if b == "" {
		return "0"
	}
	return valueOf(b) + "/" + valueOf("1"+zeros(len(b)))
}

// widthOf returns 1/2^n.
func widthOf(n int) api.Num {
	if n == 0 {
		return "1"
	}
	return "1/" + valueOf("1"+zeros(n))
}

// result is what a call has returned.
type result[T comparable] struct {
	value T
	e     api.Errno
}

// got takes the results of a call.
func got[T comparable](value T, e api.Errno) result[T] { return result[T]{value, e} }

// gotCell takes the results of bits.Cell.
func gotCell(low, width api.Num, e api.Errno) result[[2]api.Num] {
	return result[[2]api.Num]{[2]api.Num{low, width}, e}
}

// is checks that the call has succeeded with a value.
func (r result[T]) is(t *testing.T, want T) {
	t.Helper()
	if r.value != want || r.e != api.OK {
		t.Error(r.value, r.e, "instead of", want)
	}
}

// fails checks that the call has returned an error and nothing else.
func (r result[T]) fails(t *testing.T, want api.Errno) {
	t.Helper()
	var none T
	if r.value != none || r.e != want {
		t.Error(r.value, r.e, "instead of", want)
	}
}

// expectList compares a list with the wanted one.
func expectList(t *testing.T, want ...api.Bits) func(l []api.Bits, e api.Errno) {
	return func(l []api.Bits, e api.Errno) {
		t.Helper()
		if e != api.OK || len(l) != len(want) {
			t.Error(len(l), e, "instead of", len(want))
			return
		}
		for i, b := range l {
			if b != want[i] {
				t.Error(i, b, "instead of", want[i])
			}
		}
	}
}

// refuseList checks that a result is an error and nothing else.
func refuseList(t *testing.T, want api.Errno) func(l []api.Bits, e api.Errno) {
	return func(l []api.Bits, e api.Errno) {
		t.Helper()
		if len(l) != 0 || e != want {
			t.Error(len(l), e, "instead of", want)
		}
	}
}
