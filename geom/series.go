package geom

import (
	"iter"

	"privhouse/api"
	"privhouse/bits"
	"privhouse/coin"
)

// draw returns the result of a draw whose series have these signs.
func draw(a api.Num, b api.Bits, signs ...int) (api.Draw, api.Errno) {
	if e := checkRatio(a); e != api.OK {
		return api.Draw{}, e
	}
	// A draw refuses the bits that have no number, or too long a one.
	if _, e := bits.Number(b); e != api.OK {
		return api.Draw{}, e
	}
	result := api.Draw{Done: true}
series:
	for _, sign := range signs {
		for before, toss := range coins(a, b[result.Used:]) {
			if !toss.Done {
				return api.Draw{Used: len(b)}, api.OK
			}
			result.Used += toss.Used
			if toss.Value == 0 {
				result.Value += sign * before
				continue series
			}
		}
	}
	return result, api.OK
}

// coins tosses coins with the probability a, each with the bits that those before it have left. It yields the number of the coins before a coin, and that coin's result, and ends with a coin that the bits do not decide. (A coin with the probability 0 needs no bits: it is the caller who stops.)
func coins(a api.Num, b api.Bits) iter.Seq2[int, api.Draw] {
	return func(yield func(before int, toss api.Draw) bool) {
		for before := 0; ; before++ {
			// Ratios and bits that are valid here have no errors there.
			toss, _ := coin.Draw(a, b)
			if !yield(before, toss) || !toss.Done {
				return
			}
			b = b[toss.Used:]
		}
	}
}
