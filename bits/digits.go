package bits

import (
	"iter"
	"strings"

	"privhouse/api"
	"privhouse/nat"
)

// chunk is a number of bits whose number is always an int.
const chunk = 60

// pieces yields a bit string in pieces of n bits, of which the last one may be shorter.
func pieces(b api.Bits, n int) iter.Seq[api.Bits] {
	return func(yield func(api.Bits) bool) {
		for len(b) > n {
			if !yield(b[:n]) {
				return
			}
			b = b[n:]
		}
		if b != "" {
			yield(b)
		}
	}
}

// fold takes the items one after the other into a result.
func fold[Item, Result any](items iter.Seq[Item], result Result, step func(Result, Item) Result) Result {
	for x := range items {
		result = step(result, x)
	}
	return result
}

// number returns the number of a bit string. The errors of nat are those of much longer numbers.
func number(b api.Bits) api.Num {
	return fold(pieces(b, chunk), "0", func(k api.Num, piece api.Bits) api.Num {
		high, _ := nat.Mul(k, power(len(piece)))
		low, _ := nat.FromInt(smallNumber(piece))
		k, _ = nat.Add(high, low)
		return k
	})
}

// smallNumber returns the number of at most chunk bits.
func smallNumber(b api.Bits) int {
	return fold(pieces(b, 1), 0, func(k int, bit api.Bits) int {
		return 2*k + int(bit[0]-'0')
	})
}

// power returns 2^n for an n that is no greater than MaxBits, and so without an error.
func power(n int) api.Num {
	k, _ := nat.Pow("2", n)
	return k
}

// writer is a text to which bits are added.
type writer struct{ strings.Builder }

// text returns the bits that have been written.
func (w *writer) text() api.Bits { return api.Bits(w.String()) }

// writeLast adds the last n binary digits of an int.
func (w *writer) writeLast(k, n int) {
	for i := n - 1; i >= 0; i-- {
		w.WriteByte('0' + byte(k>>i&1))
	}
}

// writeNumber adds the n binary digits of a number that is less than 2^n.
func (w *writer) writeNumber(k api.Num, n int) {
	if n > chunk {
		high, low, _ := nat.DivMod(k, power(chunk))
		w.writeNumber(high, n-chunk)
		k, n = low, chunk
	}
	small, _ := nat.ToInt(k)
	w.writeLast(small, n)
}
