package dist_test

import (
	"math"
	"slices"
	"strconv"
	"testing"

	"privhouse/api"
	"privhouse/dist"
)

func TestExamples(t *testing.T) { // P8.2, P8.3, P8.4, P8.5
	p, q, r := list("a", "1/2", "b", "1/2"), list("a", "1/3", "b", "2/3"), list("a", "1")
	expect(t, p)(dist.Make(list("b", "1/2", "a", "1/4", "a", "1/4", "c", "0")))
	refuse[api.Dist](t, api.ErrSum)(dist.Make(list("a", "1/2")))
	refuse[api.Dist](t, api.ErrRange)(dist.Make(list("a", "-1", "a", "2")))
	expect(t, api.Num("1/6"))(dist.Delta(p, q, "1"))
	expect(t, api.Num("0"))(dist.Delta(p, q, "3/2"))
	expect(t, api.Num("1/2"))(dist.Delta(r, p, "1"))
	expect(t, api.Num("1/6"))(dist.Distance(q, p))
	expect(t, answer{"3/2", true})(answered(dist.Factor(p, q)))
	expect(t, answer{"", false})(answered(dist.Factor(p, r)))
	expect(t, answer{"9/8", true})(answered(dist.Moment(p, q, 2)))
	expect(t, list("a|a", "1/2", "a|b", "1/2"))(dist.Product(r, p))
	expect(t, list("a", "2/3", "b", "1/3"))(dist.Mix("1/2", r, q))
	expect(t, r)(dist.Push(p, []string{"b"}, []string{"a"}))
}

// candidate is a text that may be a probability, what it means in thirds, and the error of the text.
type candidate struct {
	text   api.Num
	thirds int
	e      api.Errno
}

func candidates() []candidate {
	return []candidate{
		{"1/3", 1, api.OK}, {"2/3", 2, api.OK}, {"1", 3, api.OK}, {"4/3", 4, api.OK}, {"0", 0, api.OK}, {"-1/3", -1, api.OK},
		{"2/6", 0, api.ErrForm}, {"", 0, api.ErrForm}, {nines(4001), 0, api.ErrOver},
	}
}

// entry is an element of a list: the place of its key in the order of the keys, and its probability.
type entry struct {
	rank int
	candidate
}

// keys are in ascending order.
func keys() []string { return []string{"", "A", "a"} }

// entries calls a function for all lists of so many elements.
func entries(many int, f func(l []entry)) {
	l := make([]entry, many)
	var fill func(i int)
	fill = func(i int) {
		if i == many {
			f(l)
			return
		}
		for rank := range keys() {
			for _, c := range candidates() {
				l[i] = entry{rank, c}
				fill(i + 1)
			}
		}
	}
	fill(0)
}

func texts(l []entry) api.Dist {
	var d api.Dist
	for _, x := range l {
		d = append(d, api.Mass{Key: keys()[x.rank], P: x.text})
	}
	return d
}

// checked returns what Check says of a list, and made what Make does.
func checked(l []entry) api.Errno {
	sum := 0
	for i, x := range l {
		switch {
		case x.e != api.OK:
			return x.e
		case x.thirds <= 0:
			return api.ErrRange
		case i > 0 && x.rank <= l[i-1].rank:
			return api.ErrOrder
		}
		sum += x.thirds
	}
	if sum != 3 {
		return api.ErrSum
	}
	return api.OK
}

func made(l []entry) (api.Dist, api.Errno) {
	cases, sum := map[string]int{}, 0
	for _, x := range l {
		switch {
		case x.e != api.OK:
			return nil, x.e
		case x.thirds < 0:
			return nil, api.ErrRange
		}
		cases[keys()[x.rank]] += x.thirds
		sum += x.thirds
	}
	if sum != 3 {
		return nil, api.ErrSum
	}
	return shared(cases, 3), api.OK
}

func TestAllShortLists(t *testing.T) { // P8.1, P8.2
	for many := range 4 {
		entries(many, func(l []entry) {
			d := texts(l)
			status(t, checked(l), d)
			if want, e := made(l); e == api.OK {
				expect(t, want)(dist.Make(d))
			} else {
				refuse[api.Dist](t, e)(dist.Make(d))
			}
		})
	}
}

func TestEmptyLists(t *testing.T) { // P8.1, P8.2
	for _, d := range []api.Dist{nil, {}} {
		status(t, api.ErrSum, d)
		refuse[api.Dist](t, api.ErrSum)(dist.Make(d))
		expect(t, api.Num("0"))(dist.At(d, ""), api.OK)
	}
	refuse[api.Dist](t, api.ErrSum)(dist.Make(list("a", "0", "", "0", "a", "0")))
}

func TestOrderOfKeys(t *testing.T) { // P8.1, P8.2
	ascending := []string{"", "\x00", "\x00\x00", " ", "!", "-1", "-10", "-2", "0", "1", "10", "2", "A", "AA", "Z", "a", "aZ", "aa", "ab", "b", "late", "z", "zz", "|", "||", "\x7f", "\x80", "\xc3", "é", "\xc3\xff", "\xe2\x82", "€", "\xff", "\xff\x00", "\xff\xff"}
	for i, low := range ascending {
		status(t, api.OK, list(low, "1"))
		status(t, api.ErrOrder, list(low, "1/2", low, "1/2"))
		for _, high := range ascending[i+1:] {
			status(t, api.OK, list(low, "1/2", high, "1/2"))
			status(t, api.ErrOrder, list(high, "1/2", low, "1/2"))
			expect(t, list(low, "1/3", high, "2/3"))(dist.Make(list(high, "2/3", low, "1/3")))
		}
	}
	var backward, forward api.Dist
	p := fraction(1, len(ascending))
	for i, key := range ascending {
		forward = append(forward, api.Mass{Key: key, P: p})
		backward = append(backward, api.Mass{Key: ascending[len(ascending)-1-i], P: p})
	}
	status(t, api.OK, forward)
	expect(t, forward)(dist.Make(backward))
	// Two keys in wrong order are found wherever they are.
	status(t, api.ErrOrder, list("b", "1/3", "a", "1/3", "c", "1/3"))
	status(t, api.ErrOrder, list("a", "1/3", "c", "1/3", "b", "1/3"))
}

func TestTextsThatAreNoProbabilities(t *testing.T) { // P8.1, P8.2
	for _, x := range []struct {
		p    api.Num
		want api.Errno
	}{
		{"x", api.ErrForm}, {"0.5", api.ErrForm}, {"-0", api.ErrForm}, {"+1", api.ErrForm}, {"01", api.ErrForm}, {"1/1", api.ErrForm}, {"2/4", api.ErrForm}, {"0/2", api.ErrForm}, {"1/0", api.ErrForm}, {"1/2 ", api.ErrForm}, {"1/-2", api.ErrForm}, {"½", api.ErrForm},
		{nines(4001), api.ErrOver}, {"1/" + ten(4000), api.ErrOver}, {"-1/" + ten(4000), api.ErrOver},
		{"-1", api.ErrRange}, {"-1/" + ten(3999), api.ErrRange}, {"-" + nines(4000), api.ErrRange},
	} {
		for _, d := range []api.Dist{list("a", string(x.p)), list("a", "1/2", "b", string(x.p)), list("a", "1", "b", string(x.p), "c", "y")} {
			status(t, x.want, d)
			refuse[api.Dist](t, x.want)(dist.Make(d))
		}
		// The order of the keys comes after the number, and after the elements before.
		status(t, x.want, list("b", "1/2", "a", string(x.p)))
		status(t, api.ErrOrder, list("b", "1/2", "a", "1/2", "c", string(x.p)))
		status(t, api.ErrRange, list("b", "0", "a", string(x.p)))
	}
	for _, d := range []api.Dist{list("a", "2"), list("a", "1/2"), list("a", "1/"+string(ten(3999))), list("a", string(nines(4000))), list("a", "1/2", "b", "1/3"), list("a", "2/3", "b", "2/3")} {
		status(t, api.ErrSum, d)
		refuse[api.Dist](t, api.ErrSum)(dist.Make(d))
	}
	status(t, api.ErrRange, list("a", "1", "b", "0"))
	expect(t, list("a", "1"))(dist.Make(list("b", "0", "a", "1", "b", "0")))
}

func TestPoint(t *testing.T) { // P8.2
	for _, key := range []string{"", "a", "late", "a|b", "\x00", "\xff"} {
		d := dist.Point(key)
		expect(t, list(key, "1"))(d, api.OK)
		status(t, api.OK, d)
	}
}

func TestAt(t *testing.T) { // P8.2
	d := list("a", "1/2", "b", "1/2")
	expect(t, api.Num("1/2"))(dist.At(d, "b"), api.OK)
	for _, key := range []string{"", "A", "aa", "c", "\xff", "a\x00"} {
		expect(t, api.Num("0"))(dist.At(d, key), api.OK)
	}
	// The list need not be a distribution.
	wild := list("b", "x", "", "-7", "b", "1/2", "a", "", "\xff", "2/4")
	for key, want := range map[string]api.Num{"b": "x", "": "-7", "a": "", "\xff": "2/4", "c": "0", "\xfe": "0"} {
		expect(t, want)(dist.At(wild, key), api.OK)
	}
}

func TestSame(t *testing.T) { // P8.2
	lists := []api.Dist{
		nil, list("a", "1"), list("a", "1/2", "b", "1/2"), list("b", "1/2", "a", "1/2"), list("a", "1/2"), list("a", "1/2", "b", "1/3"), list("a", "1/2", "c", "1/2"),
		list("a", "2/2"), list("A", "1"), list("", ""), list("", "", "", ""), list("a", "x"), list("a", "1", "b", "0"), list("a", "-1"), list("a", "1", "a", "1"),
	}
	for i, a := range lists {
		for j, b := range lists {
			if got := dist.Same(a, slices.Clone(b)); got != (i == j) {
				t.Error(a, b, got)
			}
		}
	}
	if !dist.Same(nil, api.Dist{}) || !dist.Same(api.Dist{}, nil) {
		t.Error("empty lists differ")
	}
}

func TestProducts(t *testing.T) { // P8.3
	for _, a := range models(3, 3) {
		for _, b := range models(3, 3) {
			cases := map[string]int{}
			for i, n := range a.many {
				for j, k := range b.many {
					cases[a.key(i)+"|"+b.key(j)] += n * k
				}
			}
			expect(t, shared(cases, a.all()*b.all()))(dist.Product(a.dist(), b.dist()))
		}
	}
	expect(t, list("|", "1"))(dist.Product(dist.Point(""), dist.Point("")))
	expect(t, list("a|b|c", "1"))(dist.Product(dist.Point("a|b"), dist.Point("c")))
	// The order of the pairs is not that of the keys.
	expect(t, list("a!|x", "2/3", "a|x", "1/3"))(dist.Product(list("a", "1/3", "a!", "2/3"), dist.Point("x")))
	// Keys may coincide once they are joined.
	expect(t, list("a|b|b|c", "1/3", "a|b|c", "1/2", "a|c", "1/6"))(dist.Product(list("a", "1/2", "a|b", "1/2"), list("b|c", "2/3", "c", "1/3")))
	expect(t, list("|", "1/4", "||", "1/2", "|||", "1/4"))(dist.Product(list("", "1/2", "|", "1/2"), list("", "1/2", "|", "1/2")))
}

// even returns a distribution of so many outcomes that are equally probable.
func even(many int) api.Dist {
	var l []api.Mass
	for i := range many {
		l = append(l, api.Mass{Key: strconv.Itoa(i), P: fraction(1, many)})
	}
	return must(dist.Make(l))
}

func TestNumbersOfPairs(t *testing.T) { // P8.3
	for _, x := range [][2]int{{64, 64}, {1, 4096}, {4096, 1}, {2, 2048}, {17, 240}} {
		if d := must(dist.Product(even(x[0]), even(x[1]))); len(d) != x[0]*x[1] || d[0] != (api.Mass{Key: "0|0", P: fraction(1, x[0]*x[1])}) || dist.Check(d) != api.OK {
			t.Error(x, len(d))
		}
	}
	for _, x := range [][2]int{{1, 4097}, {4097, 1}, {17, 241}, {241, 17}, {65, 64}, {64, 65}, {5000, 5000}} {
		refuse[api.Dist](t, api.ErrFull)(dist.Product(even(x[0]), even(x[1])))
	}
	// The pairs count, not the keys that are left, and no product is computed before.
	var bars []api.Mass
	for i := range 65 {
		bars = append(bars, api.Mass{Key: string(repeated("|", i)), P: "1/65"})
	}
	refuse[api.Dist](t, api.ErrFull)(dist.Product(bars, bars))
	if d := must(dist.Product(bars, must(dist.Push(bars, []string{"||", "|"}, []string{"", ""})))); len(d) != 129 {
		t.Error(len(d))
	}
	long := must(dist.Product(list("a", "1/"+string(ten(3000)), "b", string(nines(3000)+"/"+ten(3000))), even(33)))
	refuse[api.Dist](t, api.ErrFull)(dist.Product(long, long))
	refuse[api.Dist](t, api.ErrOver)(dist.Product(long[:66], must(dist.Mix("1/"+ten(1000), dist.Point("a"), dist.Point("b")))))
}

func TestMixtures(t *testing.T) { // P8.3
	for _, a := range models(3, 3) {
		for _, b := range models(3, 3) {
			for _, p := range []ratio{{0, 1}, {1, 1}, {1, 2}, {1, 3}, {3, 7}} {
				cases := map[string]int{}
				for i := range a.many {
					cases[a.key(i)] = p.top*a.many[i]*b.all() + (p.bottom-p.top)*b.many[i]*a.all()
				}
				expect(t, shared(cases, p.bottom*a.all()*b.all()))(dist.Mix(p.text(), a.dist(), b.dist()))
			}
		}
	}
	a, b := list("", "1/2", "x", "1/2"), list("X", "1/3", "\xff", "2/3")
	expect(t, b)(dist.Mix("0", a, b))
	expect(t, a)(dist.Mix("1", a, b))
	for _, p := range []api.Num{"-1", "-1/2", "-1/" + ten(3999), "2", "3/2", ten(3999), "-" + nines(4000), nines(4000) + "/" + ten(3999), ten(3999) + "/" + nines(3999)} {
		refuse[api.Dist](t, api.ErrRange)(dist.Mix(p, a, b))
	}
	for _, p := range []api.Num{"", "x", "2/4", "1/1", "-0", "0/3", "1/2/3"} {
		refuse[api.Dist](t, api.ErrForm)(dist.Mix(p, a, b))
	}
	for _, p := range []api.Num{nines(4001), "-" + nines(4001), "1/" + ten(4000)} {
		refuse[api.Dist](t, api.ErrOver)(dist.Mix(p, a, b))
	}
}

// renamed returns what Push makes of a model.
func renamed(m model, from, to []string) api.Dist {
	cases := map[string]int{}
	for i, n := range m.many {
		key := m.key(i)
		if place := slices.Index(from, key); place >= 0 {
			key = to[place]
		}
		cases[key] += n
	}
	return shared(cases, m.all())
}

func TestPushes(t *testing.T) { // P8.3
	// Keys that are not there, keys that occur several times, and keys that are replaced by others that are replaced, too.
	names := []string{"a", "b", "x"}
	var pairs [][2]string
	for _, x := range names {
		for _, y := range names {
			pairs = append(pairs, [2]string{x, y})
		}
	}
	for _, m := range models(3, 3) {
		expect(t, m.dist())(dist.Push(m.dist(), nil, nil))
		expect(t, m.dist())(dist.Push(m.dist(), []string{}, nil))
		for _, one := range pairs {
			expect(t, renamed(m, one[:1], one[1:]))(dist.Push(m.dist(), one[:1], one[1:]))
			for _, other := range pairs {
				from, to := []string{one[0], other[0]}, []string{one[1], other[1]}
				expect(t, renamed(m, from, to))(dist.Push(m.dist(), from, to))
			}
		}
	}
	d := list("a", "1/2", "b", "1/3", "c", "1/6")
	expect(t, list("a", "1/3", "b", "1/2", "c", "1/6"))(dist.Push(d, []string{"a", "b", "b", "a"}, []string{"b", "a", "c", ""}))
	expect(t, list("", "1/3", "A", "1/6", "\xff", "1/2"))(dist.Push(d, []string{"c", "b", "a"}, []string{"A", "", "\xff"}))
	expect(t, d)(dist.Push(d, []string{"", "A", "aa"}, []string{"a", "b", "c"}))
	for _, x := range [][2][]string{{nil, {"a"}}, {{"a"}, nil}, {{"a"}, {"b", "c"}}, {{"a", "b"}, {"c"}}, {{"x"}, {}}} {
		refuse[api.Dist](t, api.ErrForm)(dist.Push(d, x[0], x[1]))
	}
}

func TestDeltas(t *testing.T) { // P8.4, P8.6
	factors := []ratio{{0, 1}, {1, 2}, {1, 1}, {3, 2}, {2, 1}, {7, 3}, {100, 1}}
	for _, p := range models(3, 4) {
		for _, q := range models(3, 4) {
			for _, factor := range factors {
				// That the greatest advantage of any set is reached by Delta, and by no less, is P8.6.
				want := greatest(advantages(p, q, factor))
				expect(t, want)(dist.Delta(p.dist(), q.dist(), factor.text()))
				if factor.text() == "1" {
					expect(t, want)(dist.Distance(p.dist(), q.dist()))
				}
			}
		}
	}
	p, q := list("a", "1/2", "b", "1/2"), list("b", "1/4", "c", "3/4")
	expect(t, api.Num("3/4"))(dist.Distance(p, q))
	expect(t, api.Num("3/4"))(dist.Distance(q, p))
	expect(t, api.Num("1"))(dist.Distance(dist.Point("a"), dist.Point("A")))
	expect(t, api.Num("1"))(dist.Delta(dist.Point("a"), dist.Point("A"), nines(4000)))
	expect(t, api.Num("1"))(dist.Delta(p, q, "0"))
	expect(t, api.Num("0"))(dist.Delta(p, p, "1"))
	for _, factor := range []api.Num{"-1", "-1/" + ten(3999), "-" + nines(4000)} {
		refuse[api.Num](t, api.ErrRange)(dist.Delta(p, q, factor))
	}
	for _, factor := range []api.Num{"", "x", "2/4", "-0", "1/1", "0.5"} {
		refuse[api.Num](t, api.ErrForm)(dist.Delta(p, q, factor))
	}
	for _, factor := range []api.Num{nines(4001), "-" + nines(4001), "1/" + ten(4000)} {
		refuse[api.Num](t, api.ErrOver)(dist.Delta(p, q, factor))
	}
}

func TestFactorsAndMoments(t *testing.T) { // P8.5
	for _, p := range models(3, 4) {
		for _, q := range models(3, 4) {
			expect(t, factor(p, q))(answered(dist.Factor(p.dist(), q.dist())))
			for order := 1; order <= 8; order++ {
				expect(t, moment(p, q, order))(answered(dist.Moment(p.dist(), q.dist(), order)))
			}
		}
	}
	p, q := list("a", "1/2", "b", "1/2"), list("a", "1/3", "b", "1/3", "c", "1/3")
	expect(t, answer{"3/2", true})(answered(dist.Factor(p, q)))
	expect(t, answer{"", false})(answered(dist.Factor(q, p)))
	expect(t, answer{"1", true})(answered(dist.Moment(p, q, 1)))
	expect(t, answer{"2187/128", true})(answered(dist.Moment(p, q, 8)))
	expect(t, answer{"", false})(answered(dist.Moment(q, p, 1)))
	expect(t, answer{"", false})(answered(dist.Moment(q, p, 8)))
	for _, order := range []int{0, 9, -1, -8, 10, math.MinInt, math.MaxInt, 1<<32 + 1} {
		refuse[answer](t, api.ErrRange)(answered(dist.Moment(p, q, order)))
		// Whether an outcome is missing comes after the order.
		refuse[answer](t, api.ErrRange)(answered(dist.Moment(q, p, order)))
	}
}

func TestOrderOfErrors(t *testing.T) { // P8.1, P8.3, P8.4, P8.5
	good, far := list("a", "1/2", "b", "1/2"), even(4096)
	type fault struct {
		d api.Dist
		e api.Errno
	}
	faults := []fault{
		{list("a", "2/4"), api.ErrForm}, {list("a", string(nines(4001))), api.ErrOver}, {list("a", "0"), api.ErrRange}, {list("a", "1/2", "a", "1/2"), api.ErrOrder},
		{crossing(2000, 2001, 0, 2), api.ErrOver}, {nil, api.ErrSum}, {list("a", "1/2"), api.ErrSum},
	}
	check := func(a, b api.Dist, want api.Errno) {
		t.Helper()
		refuse[api.Dist](t, want)(dist.Product(a, b))
		for _, p := range []api.Num{"1/2", "x", "-1", "2", nines(4001)} {
			refuse[api.Dist](t, want)(dist.Mix(p, a, b))
			refuse[api.Num](t, want)(dist.Delta(a, b, p))
		}
		refuse[api.Num](t, want)(dist.Distance(a, b))
		refuse[answer](t, want)(answered(dist.Factor(a, b)))
		for _, order := range []int{1, 8, 0, 9} {
			refuse[answer](t, want)(answered(dist.Moment(a, b, order)))
		}
	}
	for _, x := range faults {
		status(t, x.e, x.d)
		for _, d := range []api.Dist{good, far} {
			check(x.d, d, x.e)
			check(d, x.d, x.e)
		}
		for _, y := range faults {
			check(x.d, y.d, x.e)
		}
		refuse[api.Dist](t, x.e)(dist.Push(x.d, []string{"a"}, []string{"b"}))
		refuse[api.Dist](t, x.e)(dist.Push(x.d, []string{"a"}, nil))
	}
}
