package bell

import (
	"iter"
	"slices"

	"privhouse/api"
	"privhouse/nat"
)

// falling returns the weights of the values from 0 to t for the ratio top/bottom. As the first k odd numbers have the sum k*k, the weight of k is the product of the first k odd powers of the numerator and of the others, up to the t-th one, of the denominator.
func falling(top, bottom api.Num, t int) []api.Num {
	tops := first(t, oddPowers(top))
	bottoms := first(t, oddPowers(bottom))
	slices.Reverse(bottoms)
	left, right := products(tops), products(bottoms)
	weights := make([]api.Num, t+1)
	for k := range weights {
		weights[k] = product(left[k], right[t-k])
	}
	return weights
}

// oddPowers yields x, x^3, x^5 and so on. It multiplies only when one more is wanted, as that may be too long.
func oddPowers(x api.Num) iter.Seq[api.Num] {
	return func(yield func(power api.Num) bool) {
		for power := x; yield(power); {
			power = product(product(power, x), x)
		}
	}
}

// first returns the first n numbers, and asks for no more.
func first(n int, numbers iter.Seq[api.Num]) []api.Num {
	var l []api.Num
	if n == 0 {
		return l
	}
	for x := range numbers {
		l = append(l, x)
		if len(l) == n {
			break
		}
	}
	return l
}

// products returns the products of the first k numbers of a list, for k from 0 to all of them.
func products(factors []api.Num) []api.Num {
	last := api.Num("1")
	l := []api.Num{last}
	for _, x := range factors {
		last = product(last, x)
		l = append(l, last)
	}
	return l
}

// product returns a product that divides a weight, and so is not too long for nat.
func product(x, y api.Num) api.Num {
	xy, _ := nat.Mul(x, y)
	return xy
}

// sum returns the sum of weights, which has at most two digits more than a weight.
func sum(weights []api.Num) api.Num {
	total := api.Num("0")
	for _, weight := range weights {
		total, _ = nat.Add(total, weight)
	}
	return total
}

// mirrored returns what belongs to the values from -t to t, given what belongs to those from 0 to t.
func mirrored[T any](half []T) []T {
	whole := make([]T, 0, 2*len(half)-1)
	for _, x := range slices.Backward(half[1:]) {
		whole = append(whole, x)
	}
	return append(whole, half...)
}
