package table_test

import (
	"math"
	"slices"
	"strconv"
	"strings"
	"testing"

	"privhouse/api"
)

// accepted is what Check says of a table without errors.
var accepted = checked{api.OK, -1}

func TestCheckExamples(t *testing.T) { // P12.1
	for text, want := range map[string]checked{
		"1: 30 0; 2: 31 1; 1: 32 0": accepted,
		"1: 30 0; 1: 31 0; 1: 32 0": {api.ErrFull, 2},
		"0: 30 0":                   {api.ErrRange, 0},
		"1: 30":                     {api.ErrForm, 0},
		"1: 121 0":                  {api.ErrRange, 0},
		"1: 30 2":                   {api.ErrRange, 0},
		"":                          accepted,
	} {
		expect(t, of(people(), text), want)
	}
}

func TestCheckNumberOfValues(t *testing.T) { // P12.1
	for n := range 40 {
		want := checked{api.ErrForm, 1}
		if n == 2 {
			want = accepted
		}
		x := of(people(), "1: 0 0")
		x.Rows = append(x.Rows, api.Row{Owner: 2, Values: make([]int, n)})
		expect(t, x, want)
		x.Schema, x.Rows[0].Owner, x.Rows[1].Owner = places(), 0, 0
		expect(t, x, want)
	}
	// A row without values is of no table: each schema has a column.
	x := api.Table{Schema: pets(), Rows: []api.Row{{Owner: 1, Values: []int{}}}}
	expect(t, x, checked{api.ErrForm, 0})
	x.Rows[0].Values = nil
	expect(t, x, checked{api.ErrForm, 0})
	x.Rows[0].Values = []int{0}
	expect(t, x, accepted)
}

func TestCheckOwner(t *testing.T) { // P12.1
	for _, owner := range []int{math.MinInt, -1000000, -2, -1, 0, 1, 2, 999999, 1000000, 1000001, 1000002, math.MaxInt} {
		for _, at := range []int{0, 1, 3} {
			private, public := of(people(), "5: 1 0; 6: 2 1; 5: 3 0; 6: 0 0"), of(places(), "0: 1 0; 0: 2 1; 0: 3 0; 0: 0 0")
			private.Rows[at].Owner, public.Rows[at].Owner = owner, owner
			want := accepted
			if owner < 1 || owner > 1000000 {
				want = checked{api.ErrRange, at}
			}
			expect(t, private, want)
			want = accepted
			if owner != 0 {
				want = checked{api.ErrRange, at}
			}
			expect(t, public, want)
		}
	}
}

func TestCheckValue(t *testing.T) { // P12.1
	columns := []api.Column{age(), colour(), {Name: "low", Lo: -1000000, Hi: -5}, {Name: "high", Lo: 7, Hi: 1000000}, {Name: "one", Lo: 3, Hi: 3}, {Name: "word", Words: []string{"w"}}, {Name: "wide", Lo: -1000000, Hi: 1000000}}
	for i, c := range columns {
		for _, v := range []int{math.MinInt, math.MinInt + 1, -1000001, c.Lo - 1, c.Lo, c.Lo + 1, -1, 0, 1, c.Hi - 1, c.Hi, c.Hi + 1, 1000001, math.MaxInt - 1, math.MaxInt} {
			x := api.Table{Schema: api.Schema{Name: "t", Many: 9, Columns: columns}}
			for range 3 {
				r := api.Row{Owner: 1}
				for _, other := range columns {
					r.Values = append(r.Values, other.Lo)
				}
				x.Rows = append(x.Rows, r)
			}
			x.Rows[1].Values[i] = v
			want := accepted
			if v < c.Lo || v > c.Hi {
				want = checked{api.ErrRange, 1}
			}
			expect(t, x, want)
			x.Schema.Public, x.Schema.Many = true, 0
			for k := range x.Rows {
				x.Rows[k].Owner = 0
			}
			expect(t, x, want)
		}
	}
}

// repeated returns a table with rows of the owners of a list.
func repeated(s api.Schema, owners ...int) api.Table {
	x := api.Table{Schema: s}
	for _, owner := range owners {
		x.Rows = append(x.Rows, api.Row{Owner: owner, Values: make([]int, len(s.Columns))})
	}
	return x
}

func TestCheckMany(t *testing.T) { // P12.1
	for many := 1; many <= 50; many++ {
		s := people()
		s.Many = many
		inARow := slices.Repeat([]int{7}, many)
		expect(t, repeated(s, inARow...), accepted)
		expect(t, repeated(s, append(inARow, 8)...), accepted)
		expect(t, repeated(s, append(inARow, 7)...), checked{api.ErrFull, many})
		expect(t, repeated(s, append(inARow, 8, 7, 8)...), checked{api.ErrFull, many + 1})
		apart := slices.Repeat([]int{7, 8, 9}, many)
		expect(t, repeated(s, apart...), accepted)
		for i, owner := range []int{7, 8, 9} {
			expect(t, repeated(s, append(slices.Clone(apart), owner)...), checked{api.ErrFull, 3 * many})
			expect(t, repeated(s, slices.Insert(slices.Clone(apart), i, owner)...), checked{api.ErrFull, 3*many - 2 + i})
		}
	}
}

func TestCheckManyOfPublicTables(t *testing.T) { // P12.1
	for _, n := range []int{1, 2, 51, 1999, 2000} {
		expect(t, repeated(places(), make([]int, n)...), accepted)
	}
}

// ascending returns the numbers from low to high.
func ascending(low, high int) []int {
	var l []int
	for n := low; n <= high; n++ {
		l = append(l, n)
	}
	return l
}

func TestCheckNumberOfRows(t *testing.T) { // P12.1
	expect(t, of(people(), ""), accepted)
	expect(t, api.Table{Schema: people(), Rows: []api.Row{}}, accepted)
	expect(t, of(places(), ""), accepted)
	for _, n := range []int{1, 1999, 2000, 2001, 2002, 5000} {
		want := accepted
		if n > 2000 {
			want = checked{api.ErrLong, -1}
		}
		expect(t, repeated(people(), ascending(1, n)...), want)
		expect(t, repeated(places(), make([]int, n)...), want)
	}
	x := repeated(people(), ascending(1, 2000)...)
	x.Rows[1999].Values[0] = 121
	expect(t, x, checked{api.ErrRange, 1999})
	x.Rows[1999].Values[0], x.Rows[1999].Owner = 120, 1000
	expect(t, x, accepted)
	x.Rows[1998].Owner = 1000
	expect(t, x, checked{api.ErrFull, 1999})
}

func TestCheckSchema(t *testing.T) { // P12.1
	for _, change := range badSchemas() {
		for _, text := range []string{"", "1: 30 0; 2: 31 1", "0: 30 0", "1: 30", "1: 200 5", "1: 1 1; 1: 1 1; 1: 1 1"} {
			x := of(people(), text)
			change(&x.Schema)
			expect(t, x, checked{api.ErrForm, -1})
		}
		x := repeated(people(), ascending(0, 2100)...)
		change(&x.Schema)
		expect(t, x, checked{api.ErrForm, -1})
	}
	expect(t, api.Table{}, checked{api.ErrForm, -1})
}

// badSchemas are changes that make people a schema that is not accepted.
func badSchemas() []func(s *api.Schema) {
	return []func(s *api.Schema){
		func(s *api.Schema) { s.Name = "" },
		func(s *api.Schema) { s.Name = "from" },
		func(s *api.Schema) { s.Many = 51 },
		func(s *api.Schema) { s.Many = -1 },
		func(s *api.Schema) { s.Many = 0 },
		func(s *api.Schema) { s.Public = true },
		func(s *api.Schema) { s.Columns = nil },
		func(s *api.Schema) { s.Columns = slices.Repeat(s.Columns, 9) },
		func(s *api.Schema) { s.Columns[1].Name = "2" },
		func(s *api.Schema) { s.Columns[1].Name = "age" },
		func(s *api.Schema) { s.Columns[0].Lo = 121 },
		func(s *api.Schema) { s.Columns[1].Hi = 2 },
		func(s *api.Schema) { s.Columns[1].Words[1] = "red" },
		func(s *api.Schema) { s.Columns[1].Words[0] = "none" },
	}
}

// change is something that gives a base an error. The parts that it changes are written like the paths of files.
type change struct {
	want  checkedBase
	parts []string
	make  func(b []api.Table)
}

// apart reports whether two changes can be made beside each other: no part of one contains a part of the other.
func apart(a, b change) bool {
	for _, x := range a.parts {
		for _, y := range b.parts {
			if strings.HasPrefix(x+"/", y+"/") || strings.HasPrefix(y+"/", x+"/") {
				return false
			}
		}
	}
	return true
}

// schemaChanges are the changes that lead to an error of the schema of a table.
func schemaChanges(i int) []change {
	at := "schema/" + strconv.Itoa(i)
	return []change{
		{checkedBase{api.ErrName, i, -1}, []string{at}, func(b []api.Table) { b[i].Schema.Name = "limit" }},
		{checkedBase{api.ErrRange, i, -1}, []string{at}, func(b []api.Table) { b[i].Schema.Many = -1 }},
		{checkedBase{api.ErrForm, i, -1}, []string{at}, func(b []api.Table) { b[i].Schema.Columns = nil }},
		{checkedBase{api.ErrLong, i, -1}, []string{at}, func(b []api.Table) { b[i].Schema.Columns = make([]api.Column, 17) }},
		{checkedBase{api.ErrName, i, -1}, []string{at}, func(b []api.Table) { b[i].Schema.Columns[1].Name = "" }},
		{checkedBase{api.ErrDouble, i, -1}, []string{at}, func(b []api.Table) { b[i].Schema.Columns[1].Name = "age" }},
	}
}

// rowChanges are the changes that lead to an error of the number of rows, or of a row, in the order of these errors. The table has one row of each owner.
func rowChanges(i int, x api.Table) []change {
	var l []change
	add := func(e api.Errno, row int, make func(x *api.Table), parts ...string) {
		for k := range parts {
			parts[k] = "rows/" + strconv.Itoa(i) + "/" + parts[k]
		}
		l = append(l, change{checkedBase{e, i, row}, parts, func(b []api.Table) { make(&b[i]) }})
	}
	add(api.ErrLong, -1, func(x *api.Table) {
		x.Rows = append(x.Rows, repeated(x.Schema, ascending(5000, 7000)...).Rows...)
	}, "number")
	for k := range x.Rows {
		at := strconv.Itoa(k) + "/"
		add(api.ErrForm, k, func(x *api.Table) { x.Rows[k].Values = nil }, at+"values")
		add(api.ErrForm, k, func(x *api.Table) { x.Rows[k].Values = x.Rows[k].Values[:1] }, at+"values/number", at+"values/1")
		add(api.ErrForm, k, func(x *api.Table) { x.Rows[k].Values = append(x.Rows[k].Values, 0) }, at+"values/number")
		for _, owner := range []int{-1, 0, 1000001} {
			if x.Schema.Public {
				owner += 2
			}
			add(api.ErrRange, k, func(x *api.Table) { x.Rows[k].Owner = owner }, at+"owner")
		}
		add(api.ErrRange, k, func(x *api.Table) { x.Rows[k].Values[0] = -1 }, at+"values/0")
		add(api.ErrRange, k, func(x *api.Table) { x.Rows[k].Values[1] = 2 }, at+"values/1")
		for earlier := range k {
			if !x.Schema.Public {
				add(api.ErrFull, k, func(x *api.Table) { x.Rows[k].Owner = x.Rows[earlier].Owner }, at+"owner", strconv.Itoa(earlier)+"/owner")
			}
		}
	}
	return l
}

// single is a valid base of a table with a row of each of three owners, beside a public one.
func single() []api.Table {
	x := of(people(), "3: 30 0; 1: 31 1; 2: 32 0")
	x.Schema.Many = 1
	return base(x, of(places(), "0: 1 0; 0: 2 1"))
}

// combined calls f with a base, changed by each one of a list of changes, and by each two that can be made beside each other, and with the first of them.
func combined(l []change, f func(b []api.Table, first change)) (pairs int) {
	for i, one := range l {
		b := single()
		one.make(b)
		f(b, one)
		for _, two := range l[i+1:] {
			if apart(one, two) {
				pairs++
				b := single()
				one.make(b)
				two.make(b)
				f(b, one)
			}
		}
	}
	return pairs
}

func TestCheckOrder(t *testing.T) { // P12.1
	for i := range single() {
		l := slices.Concat(schemaChanges(i), rowChanges(i, single()[i]))
		pairs := combined(l, func(b []api.Table, first change) {
			want := checked{first.want.e, first.want.row}
			if strings.HasPrefix(first.parts[0], "schema") {
				want = checked{api.ErrForm, -1}
			}
			expect(t, b[i], want)
		})
		if pairs < 100 {
			t.Error("only", pairs, "pairs of errors")
		}
	}
}

func TestCheckOfAllSmallTables(t *testing.T) { // P12.1
	rows := of(people(), "1: 0 0; 1: 120 1; 2: 5 1; 0: 5 1; 3: 5; 3: 121 0; -1: 9 2").Rows
	for many := 1; many <= 3; many++ {
		s := people()
		s.Many = many
		tables(s, rows, 4, func(x api.Table) { expect(t, x, wanted(x)) })
	}
	tables(places(), rows, 4, func(x api.Table) { expect(t, x, wanted(x)) })
}
