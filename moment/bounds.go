package moment

import (
	"iter"

	"privhouse/api"
)

// The first and the last order of a curve.
const (
	first = 2
	last  = first + len(bounds{}) - 1
)

// bounds are the M of a curve.
type bounds [7]api.Num

// orders enumerates the orders with their bounds.
func (b bounds) orders() iter.Seq2[int, api.Num] {
	return func(yield func(order int, bound api.Num) bool) {
		for i, bound := range b {
			if !yield(first+i, bound) {
				return
			}
		}
	}
}

// of returns the bound of an order.
func (b bounds) of(order int) api.Num { return b[order-first] }

// changed returns what a function makes of the bounds, order by order.
func (b bounds) changed(f func(order int, bound api.Num) api.Num) bounds {
	for order, bound := range b.orders() {
		b[order-first] = f(order, bound)
	}
	return b
}
