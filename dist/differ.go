package dist

import (
	"privhouse/api"
	"privhouse/rat"
)

// maxOrder is the greatest order of a moment.
const maxOrder = 8

// Delta returns by how much the probability of a set in p is at most greater than factor times its probability in q.
func Delta(p, q api.Dist, factor api.Num) (api.Num, api.Errno) {
	if e := checkBoth(p, q); e != api.OK {
		return "", e
	}
	if e := checkNotNegative(factor); e != api.OK {
		return "", e
	}
	others := byKey(q)
	return fold(p, "0", func(sum api.Num, m api.Mass) (api.Num, api.Errno) {
		more, e := excess(m.P, others.of(m.Key), factor)
		if e != api.OK {
			return "", e
		}
		return rat.Add(sum, more)
	})
}

// Distance returns by how much the probability of a set in p is at most greater than in q.
func Distance(p, q api.Dist) (api.Num, api.Errno) { return Delta(p, q, "1") }

// Factor returns by how many times an outcome is at most more probable in p than in q, and whether q has all outcomes of p.
func Factor(p, q api.Dist) (api.Num, bool, api.Errno) {
	if e := checkBoth(p, q); e != api.OK {
		return "", false, e
	}
	return compared(p, q, func(most, x, y api.Num) (api.Num, api.Errno) {
		quotient, e := rat.Div(x, y)
		if e != api.OK {
			return "", e
		}
		return rat.Max(most, quotient)
	})
}

// Moment returns the moment of an order of the quotients of the probabilities in p and q, and whether q has all outcomes of p.
func Moment(p, q api.Dist, order int) (api.Num, bool, api.Errno) {
	if e := checkBoth(p, q); e != api.OK {
		return "", false, e
	}
	if order < 1 || order > maxOrder {
		return "", false, api.ErrRange
	}
	return compared(p, q, func(sum, x, y api.Num) (api.Num, api.Errno) {
		more, e := quotientOfPowers(x, y, order)
		if e != api.OK {
			return "", e
		}
		return rat.Add(sum, more)
	})
}

// excess returns the greater one of 0 and x - factor*y.
func excess(x, y, factor api.Num) (api.Num, api.Errno) {
	product, e := rat.Mul(factor, y)
	if e != api.OK {
		return "", e
	}
	difference, e := rat.Sub(x, product)
	if e != api.OK {
		return "", e
	}
	return rat.Max("0", difference)
}

// quotientOfPowers returns x^order / y^(order-1).
func quotientOfPowers(x, y api.Num, order int) (api.Num, api.Errno) {
	above, e := rat.Pow(x, order)
	if e != api.OK {
		return "", e
	}
	below, e := rat.Pow(y, order-1)
	if e != api.OK {
		return "", e
	}
	return rat.Div(above, below)
}

// compared passes a value, 0 at first, through a step for each outcome of p, with its probabilities x in p and y in q, and reports whether q has all of these outcomes.
func compared(p, q api.Dist, step func(value, x, y api.Num) (api.Num, api.Errno)) (api.Num, bool, api.Errno) {
	others := byKey(q)
	if !others.cover(p) {
		return "", false, api.OK
	}
	value, e := fold(p, "0", func(value api.Num, m api.Mass) (api.Num, api.Errno) {
		return step(value, m.P, others.of(m.Key))
	})
	return value, e == api.OK, e
}
