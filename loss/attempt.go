package loss

import (
	"privhouse/api"
	"privhouse/rat"
)

// attempt returns the first error of several checks; otherwise the result of a computation, or the error with which it panics.
func attempt[T any](compute func() T, checks ...api.Errno) (result T, e api.Errno) {
	defer func() {
		if fault, ok := recover().(api.Errno); ok {
			e = fault
		}
	}()
	for _, check := range checks {
		demand(check)
	}
	return compute(), api.OK
}

// demand panics with an error, unless it is OK.
func demand(e api.Errno) {
	if e != api.OK {
		panic(e)
	}
}

// must returns a result, or panics with the error that came with it.
func must[T any](x T, e api.Errno) T {
	demand(e)
	return x
}

// The four operations, which panic with an error of rat.
func plus(a, b api.Num) api.Num  { return must(rat.Add(a, b)) }
func minus(a, b api.Num) api.Num { return must(rat.Sub(a, b)) }
func times(a, b api.Num) api.Num { return must(rat.Mul(a, b)) }
func over(a, b api.Num) api.Num  { return must(rat.Div(a, b)) }

// inOrder returns, for the first of several numbers for which there is one: the error of a text that is no number; ErrRange if it is less than the number before it.
func inOrder(first api.Num, others ...api.Num) api.Errno {
	for _, next := range others {
		switch order, e := rat.Cmp(first, next); {
		case e != api.OK:
			return e
		case order > 0:
			return api.ErrRange
		}
		first = next
	}
	return api.OK
}

// aboveOne returns the error of a text that is no number, or ErrRange if the number is not greater than 1.
func aboveOne(a api.Num) api.Errno {
	switch order, e := rat.Cmp(a, "1"); {
	case e != api.OK:
		return e
	case order <= 0:
		return api.ErrRange
	}
	return api.OK
}

// within returns ErrRange if an int is not from low to high.
func within(n, low, high int) api.Errno {
	if n < low || n > high {
		return api.ErrRange
	}
	return api.OK
}
