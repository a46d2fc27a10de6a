package dist

import (
	"iter"
	"slices"

	"privhouse/api"
	"privhouse/rat"
)

// Product returns the distribution of pairs of independent outcomes.
func Product(a, b api.Dist) (api.Dist, api.Errno) {
	if e := checkBoth(a, b); e != api.OK {
		return nil, e
	}
	if len(a)*len(b) > api.MaxMasses {
		return nil, api.ErrFull
	}
	var l []api.Mass
	for x, y := range pairs(a, b) {
		p, e := rat.Mul(x.P, y.P)
		if e != api.OK {
			return nil, e
		}
		l = append(l, api.Mass{Key: x.Key + "|" + y.Key, P: p})
	}
	return Make(l)
}

// Mix returns the distribution of what is drawn from a with the probability p, otherwise from b.
func Mix(p api.Num, a, b api.Dist) (api.Dist, api.Errno) {
	if e := checkBoth(a, b); e != api.OK {
		return nil, e
	}
	if e := checkNotNegative(p); e != api.OK {
		return nil, e
	}
	// As p is not negative, the difference has no more digits than p.
	rest, _ := rat.Sub("1", p)
	if checkNotNegative(rest) != api.OK {
		return nil, api.ErrRange
	}
	one, e := scaled(a, p)
	if e != api.OK {
		return nil, e
	}
	other, e := scaled(b, rest)
	if e != api.OK {
		return nil, e
	}
	return Make(append(one, other...))
}

// Push returns the distribution of what outcomes are renamed to.
func Push(d api.Dist, from, to []string) (api.Dist, api.Errno) {
	if e := Check(d); e != api.OK {
		return nil, e
	}
	if len(from) != len(to) {
		return nil, api.ErrForm
	}
	names := map[string]string{}
	// Backward, so that the first one of several names of a key is the one that stays.
	for i, key := range slices.Backward(from) {
		names[key] = to[i]
	}
	l := slices.Clone(d)
	for i, m := range l {
		if name, found := names[m.Key]; found {
			l[i].Key = name
		}
	}
	return Make(l)
}

// pairs enumerates the pairs of a mass of a and one of b.
func pairs(a, b api.Dist) iter.Seq2[api.Mass, api.Mass] {
	return func(yield func(x, y api.Mass) bool) {
		for _, x := range a {
			for _, y := range b {
				if !yield(x, y) {
					return
				}
			}
		}
	}
}

// scaled returns the masses of a distribution, multiplied by a factor.
func scaled(d api.Dist, factor api.Num) ([]api.Mass, api.Errno) {
	return fold(d, nil, func(l []api.Mass, m api.Mass) ([]api.Mass, api.Errno) {
		p, e := rat.Mul(m.P, factor)
		return append(l, api.Mass{Key: m.Key, P: p}), e
	})
}
