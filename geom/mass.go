package geom

import (
	"privhouse/api"
	"privhouse/rat"
)

// formula is what a mass or a tail with a certain ratio is for an integer.
type formula func(k int) (api.Num, api.Errno)

// evaluate returns the value of the formula for a ratio.
func evaluate(with func(a api.Num) formula, a api.Num, k int) (api.Num, api.Errno) {
	if e := checkWithin(a, -api.MaxPower, k, api.MaxPower); e != api.OK {
		return "", e
	}
	return with(a)(k)
}

// falling returns the formula factor * a^k, for k from 0 on.
//
// With a = t/d the factors that are used here are 1, (d-t)/d, (d-t)/(d+t) and d/(d+t). In lowest terms each result has a denominator of at least d^k: so it is too long if the power is.
func falling(factor, a api.Num) formula {
	return func(k int) (api.Num, api.Errno) {
		power, e := rat.Pow(a, k)
		if e != api.OK {
			return "", e
		}
		return rat.Mul(factor, power)
	}
}

// orElse returns the formula for k from 0 on that has a fixed value for negative k.
func (f formula) orElse(negative api.Num) formula {
	return func(k int) (api.Num, api.Errno) {
		if k < 0 {
			return negative, api.OK
		}
		return f(k)
	}
}

func oneMass(a api.Num) formula {
	// Numbers as short as ratios have no errors here and below.
	missing, _ := rat.Sub("1", a)
	return falling(missing, a).orElse("0")
}

func oneTail(a api.Num) formula { return falling("1", a).orElse("1") }

func twoMass(a api.Num) formula {
	missing, _ := rat.Sub("1", a)
	both, _ := rat.Add("1", a)
	first, _ := rat.Div(missing, both)
	mass := falling(first, a)
	return func(k int) (api.Num, api.Errno) {
		if k < 0 {
			k = -k
		}
		return mass(k)
	}
}

func twoTail(a api.Num) formula {
	both, _ := rat.Add("1", a)
	first, _ := rat.Inv(both)
	tail := falling(first, a)
	return func(k int) (api.Num, api.Errno) {
		if k >= 1 {
			return tail(k)
		}
		// The values below k are as probable as those above -k.
		below, e := tail(1 - k)
		if e != api.OK {
			return "", e
		}
		return rat.Sub("1", below)
	}
}
