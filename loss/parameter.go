package loss

import (
	"privhouse/api"
	"privhouse/rat"
)

// Alpha returns the ratio of two-sided draws that keeps a factor, if one owner changes a value by at most sens.
func Alpha(sens int, factor api.Num) (api.Num, api.Errno) {
	return attempt(func() api.Num {
		if sens == 1 {
			return over("1", factor)
		}
		product := times(rat.Int(sens), factor)
		return over(product, minus(plus(product, factor), "1"))
	}, aboveOne(factor), within(sens, 1, api.MaxValue))
}

// Beta returns the base of the weights of a choice that keeps a factor, if one owner changes a utility by at most sens.
func Beta(sens int, factor api.Num) (api.Num, api.Errno) {
	return attempt(func() api.Num {
		return plus("1", over(minus(factor, "1"), times(rat.Int(2*sens), factor)))
	}, aboveOne(factor), within(sens, 1, api.MaxValue))
}

// Half returns a factor that can be spent twice, if a factor can be spent once.
func Half(factor api.Num) (api.Num, api.Errno) {
	return attempt(func() api.Num {
		return over(times("2", factor), plus(factor, "1"))
	}, aboveOne(factor))
}
