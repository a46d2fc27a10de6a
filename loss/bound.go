package loss

import (
	"privhouse/api"
	"privhouse/rat"
)

// bound is a valid loss. Its methods return new values, and panic with the error of a number on the way.
type bound struct{ api.Loss }

// fold passes a value through a step for each element of a list, in order.
func fold[T, V any](l []T, value V, step func(V, T) V) V {
	for _, x := range l {
		value = step(value, x)
	}
	return value
}

// limited returns the loss with this factor and this delta, but at most 1.
func limited(factor, delta api.Num) bound {
	return bound{api.Loss{Factor: factor, Delta: must(rat.Min(delta, "1"))}}
}

// plus returns the sum with a loss.
func (b bound) plus(more api.Loss) bound {
	return limited(times(b.Factor, more.Factor), plus(b.Delta, more.Delta))
}

// most returns the loss with the greater factor and the greater delta.
func (b bound) most(other api.Loss) bound {
	return bound{api.Loss{Factor: must(rat.Max(b.Factor, other.Factor)), Delta: must(rat.Max(b.Delta, other.Delta))}}
}

// group returns the loss of k steps, each of which has the loss b.
func (b bound) group(k int) bound {
	power, sum := api.Num("1"), api.Num("0")
	for range k {
		sum = plus(sum, power)
		power = times(power, b.Factor)
	}
	return limited(power, times(b.Delta, sum))
}

// late returns the loss if outcomes become late with a probability of at most u.
func (b bound) late(u api.Num) bound {
	return limited(b.Factor, plus(b.Delta, times(plus(b.Factor, "1"), u)))
}
