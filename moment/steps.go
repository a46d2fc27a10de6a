package moment

import (
	"privhouse/api"
	"privhouse/rat"
)

// steps are the steps of a computation. They keep the first error; the numbers that follow from it are empty texts.
type steps struct{ fault api.Errno }

// next passes on the number of a step.
func (s *steps) next(x api.Num, e api.Errno) api.Num {
	if s.fault == api.OK {
		s.fault = e
	}
	return x
}

// atMostOne passes on the number of a step, but at most 1.
func (s *steps) atMostOne(x api.Num, e api.Errno) api.Num {
	return s.next(rat.Min(s.next(x, e), "1"))
}

// self returns n multiplied n times.
func (s *steps) self(n int) api.Num { return s.next(rat.Pow(rat.Int(n), n)) }

// unless returns a result, or nothing but an error.
func unless[T any](e api.Errno, result T) (T, api.Errno) {
	if e != api.OK {
		var none T
		return none, e
	}
	return result, api.OK
}
