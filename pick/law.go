package pick

import (
	"maps"
	"slices"
	"strconv"

	"privhouse/api"
	"privhouse/nat"
	"privhouse/rat"
)

// tally says how many of all bit strings of some length lead to each value, and how many are late.
type tally struct {
	values    []api.Num
	late, all api.Num
}

// count counts the bit strings of n bits: those lead to a value whose cells begin and end in its part.
func (s scale) count(n int) tally {
	t := tally{all: power(n)}
	t.late = t.all
	first := api.Num("0")
	for i := range s.many {
		end, next := rounded(s.border(i+1), t.all, s.total())
		many := api.Num("0")
		// A part in the midst of a cell ends before the first cell that begins in it or behind it.
		if nat.Cmp(first, end) < 0 {
			many, _ = nat.Sub(end, first)
		}
		t.values = append(t.values, many)
		t.late, _ = nat.Sub(t.late, many)
		first = next
	}
	return t
}

// masses are probabilities by their keys.
type masses map[string]api.Num

// indices returns the probabilities of the indices of a list that says how many of all cases each of them has.
func indices(many []api.Num, all api.Num) masses {
	m := masses{}
	for i, k := range many {
		m.add(strconv.Itoa(i), k, all)
	}
	return m
}

// add takes in a key with so many of all cases, if there are any.
func (m masses) add(key string, many, all api.Num) {
	if many != "0" {
		m[key] = share(many, all)
	}
}

// distribution returns the probabilities in the order of their keys.
func (m masses) distribution() api.Dist {
	var d api.Dist
	for _, key := range slices.Sorted(maps.Keys(m)) {
		d = append(d, api.Mass{Key: key, P: m[key]})
	}
	return d
}

// share returns the probability of so many of all cases.
func share(many, all api.Num) api.Num {
	p, _ := rat.Make(many, all)
	return p
}
