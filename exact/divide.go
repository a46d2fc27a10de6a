package exact

// Divide returns the quotient and the remainder; y must not be 0.
func (x Natural) Divide(y Natural) (quotient, rest Natural) {
	if x.Compare(y) < 0 {
		return nil, x
	}
	if len(y) == 1 {
		quotient, small := x.divideSmall(y[0])
		return quotient, Natural{small}.trim()
	}
	// With a first limb of at least half the base, the guesses of takeOut are too great by 2 at most.
	scale := base / (y[len(y)-1] + 1)
	rest, divisor := x.scaled(scale), y.scaled(scale).trim()
	quotient = make(Natural, len(x)-len(y)+1)
	for i := len(quotient) - 1; i >= 0; i-- {
		quotient[i] = rest[i : i+len(divisor)+1].takeOut(divisor)
	}
	rest, _ = rest.trim().divideSmall(scale)
	return quotient.trim(), rest
}

// Over returns the quotient, rounded down; y must not be 0.
func (x Natural) Over(y Natural) Natural {
	if y.IsOne() {
		return x
	}
	quotient, _ := x.Divide(y)
	return quotient
}

// divideSmall divides by a number from 1 to less than the base.
func (x Natural) divideSmall(y uint64) (quotient Natural, rest uint64) {
	quotient = make(Natural, len(x))
	for i := len(x) - 1; i >= 0; i-- {
		value := rest*base + x[i]
		quotient[i] = value / y
		rest = value % y
	}
	return quotient.trim(), rest
}

// scaled returns the product with a number less than the base, with one more limb than x, even if that is 0.
func (x Natural) scaled(factor uint64) Natural {
	product := make(Natural, len(x)+1)
	var carry uint64
	for i, limb := range x {
		value := limb*factor + carry
		product[i] = value % base
		carry = value / base
	}
	product[len(x)] = carry
	return product
}

// takeOut subtracts the divisor from x, in place, as often as that goes, and returns how often. x has one limb more than the divisor and is less than base times the divisor; the divisor has several limbs, the last of which is at least half the base.
func (x Natural) takeOut(divisor Natural) uint64 {
	n := len(divisor)
	top := x[n]*base + x[n-1]
	guess, rest := top/divisor[n-1], top%divisor[n-1]
	for rest < base && (guess >= base || guess*divisor[n-2] > rest*base+x[n-2]) {
		guess--
		rest += divisor[n-1]
	}
	if x.subtractMultiple(divisor, guess) {
		return guess
	}
	x.addBack(divisor)
	return guess - 1
}

// subtractMultiple subtracts factor times the divisor from x, in place, and reports whether the difference is not negative. A negative one lacks base^n, with n limbs of the divisor.
func (x Natural) subtractMultiple(divisor Natural, factor uint64) bool {
	var borrow uint64
	for i, limb := range divisor {
		value := limb*factor + borrow
		borrow = value / base
		low := value % base
		if x[i] < low {
			x[i] += base
			borrow++
		}
		x[i] -= low
	}
	n := len(divisor)
	positive := x[n] >= borrow
	x[n] = 0 // what remains is less than the divisor, also after addBack
	return positive
}

// addBack adds the divisor to x, in place, without the last carry, which makes up for the missing base^n.
func (x Natural) addBack(divisor Natural) {
	var carry uint64
	for i, limb := range divisor {
		value := x[i] + limb + carry
		x[i] = value % base
		carry = value / base
	}
}
