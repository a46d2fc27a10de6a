package geom

import (
	"slices"
	"strconv"
	"strings"

	"privhouse/api"
	"privhouse/nat"
	"privhouse/rat"
)

// late returns the probability that n bits do not decide a draw whose series have these signs.
func late(a api.Num, n int, signs ...int) (api.Num, api.Errno) {
	if e := checkWithin(a, 0, n, api.MaxBits); e != api.OK {
		return "", e
	}
	many := count(a, n, signs, noneLate, lates{1})
	return share(many.number(), n), api.OK
}

// law returns the distribution for n bits of a draw whose series have these signs.
func law(a api.Num, n int, signs ...int) (api.Dist, api.Errno) {
	if e := checkWithin(a, 0, n, api.MaxLaw); e != api.OK {
		return nil, e
	}
	return count(a, n, signs, allZero, results{late: 1}).distribution(n), api.OK
}

// share returns the probability of so many bit strings of n bits.
func share(many api.Num, n int) api.Num {
	// The numbers of bit strings are far too short for an error of rat.
	p, _ := rat.Make(many, power(n))
	return p
}

// lates is the number of bit strings that are late, in limbs of limbBits bits, the least significant one first. There are at most 2^MaxBits bit strings.
type lates [api.MaxBits/limbBits + 1]int

const limbBits = 60

// noneLate counts bit strings that are all decided.
func noneLate(int) lates { return lates{} }

func (x lates) plus(y lates) lates {
	var sum lates
	carry := 0
	for i := range sum {
		limb := x[i] + y[i] + carry
		sum[i] = limb % (1 << limbBits)
		carry = limb >> limbBits
	}
	return sum
}

// moved returns the same number: values do not matter to it.
func (x lates) moved(int) lates { return x }

// number returns x as a natural number.
func (x lates) number() api.Num {
	k := api.Num("0")
	for _, limb := range slices.Backward(x[:]) {
		high, _ := nat.Mul(k, power(limbBits))
		low, _ := nat.FromInt(limb)
		k, _ = nat.Add(high, low)
	}
	return k
}

// results says how many bit strings lead to each value from -MaxLaw on, and how many are late.
type results struct {
	values [2*api.MaxLaw + 1]int
	late   int
}

// allZero counts all bit strings of n bits as decided for the value 0.
func allZero(n int) results {
	var r results
	r.values[api.MaxLaw] = 1 << n
	return r
}

func (r results) plus(other results) results {
	for i, many := range other.values {
		r.values[i] += many
	}
	r.late += other.late
	return r
}

func (r results) moved(by int) results {
	moved := results{late: r.late}
	for i, many := range r.values {
		// No value of a possible result is so great that it moves out of the array.
		if many > 0 {
			moved.values[i+by] = many
		}
	}
	return moved
}

// distribution returns the probabilities of the results of all bit strings of n bits.
func (r results) distribution(n int) api.Dist {
	var d api.Dist
	add := func(key string, many int) {
		if many > 0 {
			d = append(d, api.Mass{Key: key, P: share(rat.Int(many), n)})
		}
	}
	for i, many := range r.values {
		add(strconv.Itoa(i-api.MaxLaw), many)
	}
	add("late", r.late)
	slices.SortFunc(d, func(x, y api.Mass) int { return strings.Compare(x.Key, y.Key) })
	return d
}
