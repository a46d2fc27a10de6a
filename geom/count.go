package geom

import (
	"strings"

	"privhouse/api"
	"privhouse/bits"
	"privhouse/nat"
	"privhouse/rat"
)

// The rows of a matrix of coins. The cell in a row and the column n says, of a row with a value, whether there is a bit string of n bits that decides for it while no shorter prefix does; of the last row, whether there is one that is late. There is never more than one.
const (
	zero = iota
	one
	undecided
	rowsOfCoins
)

// tosses returns the matrix of coins with the probability a, for up to n bits.
func tosses(a api.Num, n int) matrix[bool] {
	m := newMatrix[bool](rowsOfCoins, n+1)
	// Only the first digits of the probability itself do not decide. With another digit at the end they do: with 0 for 1 the cell is below the probability, with 1 for 0 above it.
	digits, whole := expansion(a, n)
	for i, digit := range digits {
		m.set(undecided, i, true)
		if digit == '1' {
			m.set(one, i+1, true)
		} else {
			m.set(zero, i+1, true)
		}
	}
	if whole {
		m.set(zero, len(digits), true)
	} else {
		m.set(undecided, n, true)
	}
	return m
}

// expansion returns the first n binary digits of a ratio, and whether these are all of them. In this case the last one is 1.
func expansion(a api.Num, n int) (digits string, whole bool) {
	// A ratio of MaxParam digits and 2^MaxBits are too short, even together, for an error of nat.
	top, bottom, _ := rat.Parts(a)
	scaled, _ := nat.Mul(top, power(n))
	number, rest, _ := nat.DivMod(scaled, bottom)
	word, _ := bits.Word(number, n)
	if rest != "0" {
		return string(word), false
	}
	return strings.TrimRight(string(word), "0"), true
}

// power returns 2^n.
func power(n int) api.Num {
	k, _ := nat.Pow("2", n)
	return k
}

// tally is a type that counts bit strings by what they lead to. Its zero value counts none.
type tally[T any] interface {
	plus(other T) T
	// moved counts the same bit strings if they lead to values that are greater by a number.
	moved(by int) T
}

// count counts all bit strings of n bits by what they lead to in a draw whose series have these signs: decided counts those of so many bits without a series, late counts one that is late.
func count[T tally[T]](a api.Num, n int, signs []int, decided func(n int) T, late T) T {
	coins := tosses(a, n)
	// A row says how many series are still to come, a column how many bits are left for them.
	counts := newMatrix[T](len(signs)+1, n+1)
	for left := range n + 1 {
		counts.set(0, left, decided(left))
	}
	for row := 1; row <= len(signs); row++ {
		sign := signs[len(signs)-row]
		for left := range n + 1 {
			var sum T
			if coins.at(undecided, left) {
				sum = late
			}
			for used := range left + 1 {
				if coins.at(zero, used) {
					sum = sum.plus(counts.at(row-1, left-used))
				}
				// A coin with the value 1 has used bits, so that this cell has been set.
				if coins.at(one, used) {
					sum = sum.plus(counts.at(row, left-used).moved(sign))
				}
			}
			counts.set(row, left, sum)
		}
	}
	return counts.at(len(signs), n)
}
