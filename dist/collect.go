package dist

import (
	"maps"
	"slices"

	"privhouse/api"
	"privhouse/rat"
)

// fold passes a value through a step for each element of a list, in order, and stops at the first error.
func fold[T, V any](l []T, value V, step func(V, T) (V, api.Errno)) (V, api.Errno) {
	for _, x := range l {
		next, e := step(value, x)
		if e != api.OK {
			var none V
			return none, e
		}
		value = next
	}
	return value, api.OK
}

// masses are probabilities by their keys.
type masses map[string]api.Num

// of returns the probability of an outcome.
func (m masses) of(key string) api.Num {
	if p, found := m[key]; found {
		return p
	}
	return "0"
}

// plus takes in one more mass, and returns the same masses.
func (m masses) plus(more api.Mass) (masses, api.Errno) {
	sum, e := rat.Add(m.of(more.Key), more.P)
	m[more.Key] = sum
	return m, e
}

// collect adds the masses with the same key, drops those that are 0, and sorts the others.
func collect(l []api.Mass) (api.Dist, api.Errno) {
	sums, e := fold(l, masses{}, masses.plus)
	if e != api.OK {
		return nil, e
	}
	var d api.Dist
	for _, key := range slices.Sorted(maps.Keys(sums)) {
		if p := sums[key]; p != "0" {
			d = append(d, api.Mass{Key: key, P: p})
		}
	}
	return d, api.OK
}

// byKey returns the probabilities of a distribution by their keys.
func byKey(d api.Dist) masses {
	m := masses{}
	for _, x := range d {
		m[x.Key] = x.P
	}
	return m
}

// cover reports whether each outcome of a distribution is among the masses.
func (m masses) cover(d api.Dist) bool {
	return !slices.ContainsFunc(d, func(x api.Mass) bool {
		_, found := m[x.Key]
		return !found
	})
}
