package table_test

import (
	"math"
	"slices"
	"testing"

	"privhouse/api"
	"privhouse/schema"
	"privhouse/table"
)

// clamped checks what Clamp says of a value.
func clamped(t *testing.T, c api.Column, v, want int) {
	t.Helper()
	x := base(api.Table{Schema: api.Schema{Columns: []api.Column{c}}})
	unchanged(t, x, func() {
		if got := table.Clamp(c, v); got != want {
			t.Errorf("%+v: %d is clamped to %d instead of %d", c, v, got, want)
		}
	})
}

func TestClamp(t *testing.T) { // P12.5
	clamped(t, age(), 130, 120)
	clamped(t, age(), -1, 0)
	clamped(t, age(), 30, 30)
	clamped(t, colour(), 9, 1)
	for _, c := range []api.Column{age(), colour(), {Name: "one", Lo: 7, Hi: 7}, {Name: "below", Lo: -9, Hi: -7}, {Name: "beyond", Lo: 5, Hi: 9}, {Name: "around", Lo: -1, Hi: 1}, {Name: "wide", Lo: -1000000, Hi: 1000000}, {Name: "word", Words: []string{"w"}}, {Name: "words", Hi: 2, Words: []string{"c", "a", "b"}}, {Name: "empty", Lo: 3, Hi: 5, Words: []string{}}} {
		for _, v := range []int{math.MinInt, math.MinInt + 1, -1000001, c.Lo - 2, c.Lo - 1, -1, 0} {
			if v < c.Lo {
				clamped(t, c, v, c.Lo)
			}
		}
		for _, v := range []int{math.MaxInt, math.MaxInt - 1, 1000001, c.Hi + 2, c.Hi + 1, 1, 0} {
			if v > c.Hi {
				clamped(t, c, v, c.Hi)
			}
		}
		for v := c.Lo; v <= c.Hi; v += 1 + (c.Hi-c.Lo)/500 {
			clamped(t, c, v, v)
		}
		clamped(t, c, c.Hi-1, max(c.Hi-1, c.Lo))
		clamped(t, c, c.Hi, c.Hi)
	}
}

func TestClampWithColumnsThatAreNotValid(t *testing.T) { // P12.5
	for _, c := range []api.Column{
		{}, {Lo: 5, Hi: 9}, {Name: "A", Lo: 5, Hi: 9}, {Name: "from", Lo: 5, Hi: 9}, {Name: "turned", Lo: 9, Hi: 5}, {Name: "low", Lo: -1000001, Hi: -5}, {Name: "high", Lo: 5, Hi: 1000001},
		{Name: "all", Lo: math.MinInt, Hi: math.MaxInt}, {Name: "none", Lo: 5, Hi: 9}, {Name: "turned", Lo: math.MaxInt, Hi: math.MinInt},
		{Name: "x", Lo: 1, Hi: 2, Words: []string{"a", "b"}}, {Name: "x", Lo: 0, Hi: 2, Words: []string{"a", "b"}}, {Name: "x", Lo: 0, Hi: 0, Words: []string{"a", "b"}}, {Name: "x", Lo: 1, Hi: 1, Words: []string{"a", "b"}},
		{Name: "x", Hi: 1, Words: []string{"a", "a"}}, {Name: "x", Hi: 1, Words: []string{"a", "of"}}, {Name: "x", Hi: 64, Words: make([]string, 65)}, {Name: "", Hi: 1, Words: []string{"a", "b"}},
	} {
		for _, v := range []int{math.MinInt, -1000001, -1000000, -6, -1, 0, 1, 2, 5, 7, 9, 10, 1000000, 1000001, math.MaxInt} {
			clamped(t, c, v, 0)
		}
	}
}

// same checks what Same says of two tables, in either order.
func same(t *testing.T, a, b api.Table, want bool) {
	t.Helper()
	unchanged(t, base(a, b), func() {
		if table.Same(a, b) != want || table.Same(b, a) != want {
			t.Errorf("%s and %s are not said to be the same: %v", brief(a), brief(b), !want)
		}
	})
}

// samples are tables of all sorts, valid and not. No two of them are equal.
func samples() []api.Table {
	odd := api.Schema{Name: "a\x80", Many: math.MinInt, Columns: []api.Column{{Words: []string{"", ""}}, {Words: []string{}}, {}}}
	return []api.Table{
		{}, {Schema: odd}, repeated(odd, 0, -1, math.MinInt), {Rows: []api.Row{{}}}, {Rows: []api.Row{{}, {}}}, {Rows: []api.Row{{Values: []int{0}}}},
		of(people(), ""), of(people(), "1: 30 0"), of(people(), "1: 30 0; 1: 30 0"), of(people(), "1: 30 0; 2: 31 1"), of(people(), "2: 31 1; 1: 30 0"), of(people(), "1: 30; 2:; 0: 1 2 3 4 5; 2: 0"),
		of(places(), ""), of(places(), "0: 30 0"), of(places(), "0: 30 0; 5: 1 1"), of(pets(), ""), of(pets(), "1: 1; 2: 0"), repeated(people(), ascending(1, 2000)...), repeated(people(), ascending(1, 2001)...),
	}
}

func TestSame(t *testing.T) { // P12.5
	for i, a := range samples() {
		for k, b := range samples() {
			same(t, a, b, i == k)
		}
	}
}

func TestSameWithEmptyLists(t *testing.T) { // P12.5
	same(t, api.Table{}, api.Table{Rows: []api.Row{}}, true)
	same(t, of(people(), ""), api.Table{Schema: people(), Rows: make([]api.Row, 0, 5)}, true)
	same(t, api.Table{}, api.Table{Schema: api.Schema{Columns: []api.Column{}}}, true)
	a, b := of(people(), "1:; 2: 1 1"), of(people(), "1:; 2: 1 1")
	b.Rows[0].Values = []int{}
	same(t, a, b, true)
	b.Schema.Columns[0].Words = []string{}
	same(t, a, b, true)
	b.Rows[0].Values = []int{0}
	same(t, a, b, false)
	same(t, api.Table{}, api.Table{Rows: make([]api.Row, 1)}, false)
}

func TestSameWithOneDifference(t *testing.T) { // P12.5
	first := func() api.Table { return of(people(), "1: 30 0; 2: 31 1; 3: 0") }
	for _, change := range schemaElements() {
		x := first()
		change(&x.Schema)
		same(t, first(), x, false)
		same(t, x, deepCopy(x), true)
	}
	changes := []func(l []api.Row) []api.Row{
		func(l []api.Row) []api.Row { return nil },
		func(l []api.Row) []api.Row { return l[1:] },
		func(l []api.Row) []api.Row { return l[:len(l)-1] },
		func(l []api.Row) []api.Row { return append(l, api.Row{}) },
		func(l []api.Row) []api.Row { return append(l, l[0]) },
		func(l []api.Row) []api.Row { return append(l[:1], l...) },
		func(l []api.Row) []api.Row { slices.Reverse(l); return l },
		func(l []api.Row) []api.Row { l[0], l[1] = l[1], l[0]; return l },
	}
	for i, r := range first().Rows {
		in := func(change func(r *api.Row)) {
			changes = append(changes, func(l []api.Row) []api.Row { change(&l[i]); return l })
		}
		in(func(r *api.Row) { r.Owner++ })
		in(func(r *api.Row) { r.Owner = -r.Owner })
		in(func(r *api.Row) { r.Values = nil })
		in(func(r *api.Row) { r.Values = r.Values[1:] })
		in(func(r *api.Row) { r.Values = append(r.Values, 0) })
		for k := range r.Values {
			in(func(r *api.Row) { r.Values[k]++ })
			in(func(r *api.Row) { r.Values[k] = -1 })
		}
	}
	for _, change := range changes {
		x := first()
		x.Rows = change(x.Rows)
		same(t, first(), x, false)
		same(t, x, deepCopy(x), true)
		same(t, x, table.Copy(x), true)
	}
}

func TestCopyIsEqual(t *testing.T) { // P12.5
	for _, x := range samples() {
		unchanged(t, base(x), func() {
			if c := table.Copy(x); !equal(c, x) || !table.Same(c, x) {
				t.Errorf("%s is copied as %s", brief(x), brief(c))
			}
		})
	}
	for _, b := range [][]api.Table{nil, {}, samples()[:1], samples()[3:9], samples()} {
		unchanged(t, b, func() {
			if c := table.CopyOf(b); !equalBases(c, b) {
				t.Errorf("%s is copied as %s", briefBase(b), briefBase(c))
			}
		})
	}
}

// copiers are the functions whose results have parts that are equal to those of their argument.
func copiers() map[string]func(b []api.Table) []api.Table {
	each := func(f func(x api.Table) api.Table) func(b []api.Table) []api.Table {
		return func(b []api.Table) []api.Table {
			var l []api.Table
			for _, x := range b {
				l = append(l, f(x))
			}
			return l
		}
	}
	return map[string]func(b []api.Table) []api.Table{
		"Copy":                 each(table.Copy),
		"CopyOf":               table.CopyOf,
		"Without":              each(func(x api.Table) api.Table { return table.Without(x, 1) }),
		"Without, not there":   each(func(x api.Table) api.Table { return table.Without(x, 12345) }),
		"WithoutOf":            func(b []api.Table) []api.Table { return table.WithoutOf(b, 1) },
		"WithoutOf, not there": func(b []api.Table) []api.Table { return table.WithoutOf(b, 12345) },
		"Schemas": func(b []api.Table) []api.Table {
			var l []api.Table
			for _, s := range table.Schemas(b) {
				l = append(l, api.Table{Schema: s})
			}
			return l
		},
	}
}

// spoil changes all that the slices of a base hold, grow what is behind their ends.
func spoil(b []api.Table) {
	for i := range b {
		x := &b[i]
		for k := range x.Schema.Columns {
			c := &x.Schema.Columns[k]
			for n := range c.Words {
				c.Words[n] = "spoilt"
			}
			*c = api.Column{Name: "spoilt", Lo: 77}
		}
		for k := range x.Rows {
			for n := range x.Rows[k].Values {
				x.Rows[k].Values[n] = 777
			}
			x.Rows[k] = api.Row{Owner: 777}
		}
		*x = api.Table{}
	}
}

func grow(b []api.Table) {
	for _, x := range b {
		for _, c := range x.Schema.Columns {
			_ = append(c.Words, "grown", "grown")
		}
		_ = append(x.Schema.Columns, api.Column{Name: "grown"})
		for _, r := range x.Rows {
			_ = append(r.Values, 888, 888)
		}
		_ = append(x.Rows, api.Row{Owner: 888}, api.Row{Owner: 888})
	}
	_ = append(b, api.Table{})
}

func TestResultsShareNothingWithArguments(t *testing.T) { // P12.2, P12.3, P12.5
	arguments := [][]api.Table{base(of(people(), "1: 1 1; 2: 2 0; 1: 3 1"), of(places(), "0: 5 1; 1: 6 0"), of(pets(), "1: 2")), base(of(people(), "2: 5 0; 3: 6 1")), samples(), crowded()}
	for name, f := range copiers() {
		for _, change := range []func(b []api.Table){spoil, grow} {
			for _, b := range arguments {
				b = packed(b)
				unchanged(t, b[:cap(b)], func() { change(f(b)) })
				result := f(b)
				before := deepCopies(result)
				change(b)
				if !equalBases(result, before) {
					t.Errorf("%s: a change of the argument turns %s into %s", name, briefBase(before), briefBase(result))
				}
			}
		}
	}
}

// packed returns a copy of a base whose lists have room behind their ends.
func packed(b []api.Table) []api.Table {
	b = deepCopies(b)
	for i := range b {
		x := &b[i]
		for k := range x.Schema.Columns {
			x.Schema.Columns[k].Words = slices.Grow(x.Schema.Columns[k].Words, 3)
		}
		x.Schema.Columns = slices.Grow(x.Schema.Columns, 3)
		for k := range x.Rows {
			x.Rows[k].Values = slices.Grow(x.Rows[k].Values, 3)
		}
		x.Rows = slices.Grow(x.Rows, 3)
	}
	return slices.Grow(b, 3)
}

// crowded returns a base whose tables share all their memory, as do the rows and the columns of each of them.
func crowded() []api.Table {
	values, words := []int{5, 1, 1, 0, 1, 0}, []string{"red", "green", "blue", "white"}
	s := api.Schema{Name: "people", Many: 3, Columns: []api.Column{{Name: "a", Hi: 1, Words: words[:2]}, {Name: "b", Hi: 3, Words: words}, {Name: "c", Hi: 1, Words: words[2:]}, {Name: "d", Hi: 120}}}
	rows := []api.Row{{Owner: 2, Values: values[:2]}, {Owner: 1, Values: values[2:4]}, {Owner: 2, Values: values}, {Owner: 3, Values: values[4:]}, {Owner: 2, Values: values[:4]}}
	return []api.Table{{Schema: s, Rows: rows[:3]}, {Schema: s, Rows: rows}, {Schema: s, Rows: rows[3:]}, {Schema: api.Schema{Name: "t", Public: true, Columns: s.Columns[:2]}, Rows: rows}}
}

func TestResultsShareNothingWithEachOther(t *testing.T) { // P12.2, P12.3, P12.5
	for name, f := range copiers() {
		result := f(crowded())
		before := deepCopies(result)
		grow(result)
		if !equalBases(result, before) {
			t.Errorf("%s: lists of a result grow into each other: %s", name, briefBase(result))
		}
		for i := range before {
			result := f(crowded())
			spoil(result[i : i+1])
			want := deepCopies(before)
			want[i] = api.Table{}
			if !equalBases(result, want) {
				t.Errorf("%s: a change of table %d of a result changes others: %s", name, i, briefBase(result))
			}
			for k := range before[i].Rows {
				result := f(crowded())
				want := deepCopies(before)
				spoil([]api.Table{{Rows: result[i].Rows[k : k+1]}})
				want[i].Rows[k] = api.Row{Owner: 777}
				if !equalBases(result, want) {
					t.Errorf("%s: a change of row %d of table %d changes others: %s", name, k, i, briefBase(result))
				}
			}
			for k := range before[i].Schema.Columns {
				result := f(crowded())
				want := deepCopies(before)
				spoil([]api.Table{{Schema: api.Schema{Columns: result[i].Schema.Columns[k : k+1]}}})
				want[i].Schema.Columns[k] = api.Column{Name: "spoilt", Lo: 77}
				if !equalBases(result, want) {
					t.Errorf("%s: a change of column %d of table %d changes others", name, k, i)
				}
			}
		}
	}
}

func TestCopiesShareNothingBehindEmptyLists(t *testing.T) { // P12.5
	for name, f := range copiers() {
		b := make([]api.Table, 1, 4)
		b[0] = api.Table{Schema: api.Schema{Name: "t", Columns: make([]api.Column, 1, 4)}, Rows: make([]api.Row, 1, 4)}
		b[0].Schema.Columns[0].Words, b[0].Rows[0].Values = make([]string, 0, 4), make([]int, 0, 4)
		for _, argument := range [][]api.Table{b, {{Schema: api.Schema{Columns: b[0].Schema.Columns[:0]}, Rows: b[0].Rows[:0]}}, b[:0]} {
			grow(f(argument))
		}
		_ = append(f(b[:0]), of(people(), ""))
		x := b[:2]
		if x[1].Schema.Name != "" || x[0].Schema.Name != "t" || x[0].Rows[:2][1].Owner != 0 || x[0].Schema.Columns[:2][1].Name != "" || x[0].Rows[0].Values[:1][0] != 0 || x[0].Schema.Columns[0].Words[:1][0] != "" {
			t.Error(name, "shares memory behind the end of a list")
		}
	}
}

func TestCopiesOfSchemas(t *testing.T) { // P12.5
	for _, x := range samples() {
		if c := table.Copy(x); !schema.Same(c.Schema, x.Schema) {
			t.Errorf("%+v is copied as %+v", x.Schema, c.Schema)
		}
	}
}
