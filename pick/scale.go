package pick

import (
	"iter"
	"sort"

	"privhouse/api"
	"privhouse/bits"
	"privhouse/nat"
)

// scale divides the unit interval among values from 0 to many-1: the part of a value i reaches from border(i) to border(i+1). Borders and cells are measured by the scale, so that border(many) is the end of the unit interval.
//
// A sum of weights has at most two digits more than a weight, and at most 78 more when it is multiplied by 2^MaxBits; so nat and rat return no errors here.
type scale struct {
	many   int
	border func(i int) api.Num
}

// weighted returns the scale on which the part of an index is as long as its weight.
func weighted(weights []api.Num) scale {
	borders := []api.Num{"0"}
	for before, weight := range sums(weights) {
		after, _ := nat.Add(before, weight)
		borders = append(borders, after)
	}
	return scale{len(weights), func(i int) api.Num { return borders[i] }}
}

// uniform returns the scale on which all parts have the length 1.
func uniform(many int) scale {
	return scale{many, func(i int) api.Num {
		border, _ := nat.FromInt(i)
		return border
	}}
}

// sums yields the sum of all weights before a weight, and that weight.
func sums(weights []api.Num) iter.Seq2[api.Num, api.Num] {
	return func(yield func(before, weight api.Num) bool) {
		before := api.Num("0")
		for _, weight := range weights {
			if !yield(before, weight) {
				return
			}
			before, _ = nat.Add(before, weight)
		}
	}
}

// total returns the length of the unit interval.
func (s scale) total() api.Num { return s.border(s.many) }

// draw returns the result of a draw.
func (s scale) draw(b api.Bits) (api.Draw, api.Errno) {
	whole, e := s.cell(b)
	if e != api.OK {
		return api.Draw{}, e
	}
	value := s.find(whole.low)
	if !s.holds(value, whole) {
		return api.Draw{Used: len(b)}, api.OK
	}
	// A prefix has a cell around those of all longer ones: if it decides, they do.
	used := sort.Search(len(b), func(n int) bool {
		prefix, _ := s.cell(b[:n])
		return s.holds(value, prefix)
	})
	return api.Draw{Done: true, Value: value, Used: used}, api.OK
}

// span is a cell on a scale, made longer by less than 1 on either side, as far as the next integers. That takes it across no border, since these are integers, too.
type span struct{ low, high api.Num }

// cell returns the cell of a bit string.
func (s scale) cell(b api.Bits) (span, api.Errno) {
	k, e := bits.Number(b)
	if e != api.OK {
		return span{}, e
	}
	cells := power(len(b))
	next, _ := nat.Add(k, "1")
	low, _ := rounded(k, s.total(), cells)
	_, high := rounded(next, s.total(), cells)
	return span{low, high}, api.OK
}

// find returns the value whose part a place of the unit interval is in: the first one that ends behind it, and so none whose part is empty.
func (s scale) find(place api.Num) int {
	return sort.Search(s.many, func(i int) bool {
		return nat.Cmp(place, s.border(i+1)) < 0
	})
}

// holds reports whether the part of a value contains a cell.
func (s scale) holds(value int, cell span) bool {
	return nat.Cmp(s.border(value), cell.low) <= 0 && nat.Cmp(cell.high, s.border(value+1)) <= 0
}

// power returns 2^n.
func power(n int) api.Num {
	k, _ := nat.Pow("2", n)
	return k
}

// rounded returns a*b/c, rounded down and rounded up.
func rounded(a, b, c api.Num) (down, up api.Num) {
	product, _ := nat.Mul(a, b)
	down, rest, _ := nat.DivMod(product, c)
	if rest == "0" {
		return down, down
	}
	up, _ = nat.Add(down, "1")
	return down, up
}
