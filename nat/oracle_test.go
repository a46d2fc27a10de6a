package nat_test

import (
	"slices"
	"strings"

	"privhouse/api"
)

// The tests compare the package with pen-and-paper arithmetic on single digits, which shares no code with it.

// trimmed returns digits, the last one first, as a number.
func trimmed(digits []byte) api.Num {
	slices.Reverse(digits)
	for i := range digits {
		digits[i] += '0'
	}
	text := strings.TrimLeft(string(digits), "0")
	if text == "" {
		text = "0"
	}
	return api.Num(text)
}

// digit returns the digit of a place, counted from the last one.
func digit(a api.Num, place int) byte {
	if place >= len(a) {
		return 0
	}
	return a[len(a)-1-place] - '0'
}

func paperSum(a, b api.Num) api.Num {
	sum := make([]byte, max(len(a), len(b))+1)
	var carry byte
	for i := range sum {
		value := digit(a, i) + digit(b, i) + carry
		sum[i], carry = value%10, value/10
	}
	return trimmed(sum)
}

func paperProduct(a, b api.Num) api.Num {
	product := make([]byte, len(a)+len(b))
	for i := range len(a) {
		var carry byte
		for j := range len(b) + 1 {
			if i+j < len(product) {
				value := product[i+j] + digit(a, i)*digit(b, j) + carry
				product[i+j], carry = value%10, value/10
			}
		}
	}
	return trimmed(product)
}

// generator makes numbers that look random; the same ones in each run.
type generator uint64

func (g *generator) below(n int) int {
	*g = *g*6364136223846793005 + 1442695040888963407
	return int(uint64(*g) >> 33 % uint64(n))
}

// number returns a number of at most so many digits. Many of them have long runs of zeros or nines, which make carries and wrong guesses of quotients likely.
func (g *generator) number(digits int) api.Num {
	text := make([]byte, 1+g.below(digits))
	kind := g.below(3)
	for i := range text {
		text[i] = []byte("0959")[kind]
		if kind == 1 || g.below(12) == 0 {
			text[i] = byte('0' + g.below(10))
		}
	}
	text[0] = byte('1' + g.below(9))
	return api.Num(text)
}

// pairs returns numbers of different lengths, with 0 and 1 among them.
func pairs(count, digits int) [][2]api.Num {
	g := generator(7)
	out := [][2]api.Num{{"0", "0"}, {"0", "1"}, {"1", "0"}, {"1", "1"}, {"0", "1000000000"}, {"999999999", "1000000001"}}
	for range count {
		out = append(out, [2]api.Num{g.number(digits), g.number(digits)})
	}
	return out
}
