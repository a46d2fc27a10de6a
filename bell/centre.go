package bell

import (
	"slices"
	"strconv"
	"strings"

	"privhouse/api"
)

// outcome is an outcome of a draw, with its probability.
type outcome api.Mass

// compare orders outcomes by their keys, byte by byte.
func (o outcome) compare(other outcome) int { return strings.Compare(o.Key, other.Key) }

// centred returns the distribution of the values to which the indices of a distribution belong.
func centred(indices api.Dist, t int) api.Dist {
	var values []outcome
	for _, m := range indices {
		values = append(values, outcome{valueOf(m.Key, t), m.P})
	}
	slices.SortFunc(values, outcome.compare)
	var d api.Dist
	for _, o := range values {
		d = append(d, api.Mass(o))
	}
	return d
}

// valueOf returns the key of the value that belongs to the key of an index. Bits that do not decide have no index, and keep their key.
func valueOf(key string, t int) string {
	index, err := strconv.Atoi(key)
	if err != nil {
		return key
	}
	return strconv.Itoa(index - t)
}
