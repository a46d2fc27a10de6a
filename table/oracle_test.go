package table_test

import (
	"reflect"
	"slices"
	"strconv"
	"strings"
	"testing"

	"privhouse/api"
	"privhouse/schema"
	"privhouse/table"
)

// people is the schema of the chapter's examples, places a public one, pets a second one with owners.
func people() api.Schema {
	return api.Schema{Name: "people", Many: 2, Columns: []api.Column{age(), colour()}}
}

func places() api.Schema {
	return api.Schema{Name: "places", Public: true, Columns: []api.Column{age(), colour()}}
}

func pets() api.Schema {
	return api.Schema{Name: "pets", Many: 1, Columns: []api.Column{{Name: "kind", Hi: 2, Words: []string{"cat", "dog", "bird"}}}}
}

func age() api.Column    { return api.Column{Name: "age", Lo: 0, Hi: 120} }
func colour() api.Column { return api.Column{Name: "colour", Hi: 1, Words: []string{"red", "green"}} }

// of returns a table whose rows are written as in the chapter's examples: 1: 30 0; 2: 31 1.
func of(s api.Schema, text string) api.Table {
	t := api.Table{Schema: s}
	if text == "" {
		return t
	}
	for _, part := range strings.Split(text, ";") {
		fields := strings.Fields(part)
		r := api.Row{Owner: number(strings.TrimSuffix(fields[0], ":"))}
		for _, f := range fields[1:] {
			r.Values = append(r.Values, number(f))
		}
		t.Rows = append(t.Rows, r)
	}
	return t
}

// number reads a number of a test's own text.
func number(s string) int {
	n, err := strconv.Atoi(s)
	if err != nil {
		panic(err)
	}
	return n
}

// base returns a list of tables.
func base(l ...api.Table) []api.Table { return l }

// deepCopy and deepCopies copy tables with all that they contain. They keep nil lists and empty ones apart.
func deepCopy(t api.Table) api.Table {
	t.Schema.Columns = slices.Clone(t.Schema.Columns)
	for i := range t.Schema.Columns {
		t.Schema.Columns[i].Words = slices.Clone(t.Schema.Columns[i].Words)
	}
	t.Rows = slices.Clone(t.Rows)
	for i := range t.Rows {
		t.Rows[i].Values = slices.Clone(t.Rows[i].Values)
	}
	return t
}

func deepCopies(b []api.Table) []api.Table {
	b = slices.Clone(b)
	for i := range b {
		b[i] = deepCopy(b[i])
	}
	return b
}

// unchanged calls f, and checks that f leaves tables as they are.
func unchanged(t *testing.T, b []api.Table, f func()) {
	t.Helper()
	before := deepCopies(b)
	f()
	if !reflect.DeepEqual(b, before) {
		t.Errorf("%+v has become %+v", before, b)
	}
}

// equal and equalBases compare tables element by element. A nil list is equal to an empty one.
func equal(a, b api.Table) bool {
	return equalSchemas(a.Schema, b.Schema) && slices.EqualFunc(a.Rows, b.Rows, func(x, y api.Row) bool {
		return x.Owner == y.Owner && slices.Equal(x.Values, y.Values)
	})
}

func equalSchemas(a, b api.Schema) bool {
	return a.Name == b.Name && a.Public == b.Public && a.Many == b.Many && slices.EqualFunc(a.Columns, b.Columns, func(x, y api.Column) bool {
		return x.Name == y.Name && x.Lo == y.Lo && x.Hi == y.Hi && slices.Equal(x.Words, y.Words)
	})
}

func equalBases(a, b []api.Table) bool { return slices.EqualFunc(a, b, equal) }

// checked is what Check returns, checkedBase what CheckBase returns.
type checked struct {
	e   api.Errno
	row int
}

type checkedBase struct {
	e          api.Errno
	table, row int
}

// faults lists the errors of a table, in the chapter's order. It counts an owner's rows anew for each row.
func faults(t api.Table) []checked {
	var l []checked
	note := func(applies bool, e api.Errno, row int) {
		if applies {
			l = append(l, checked{e, row})
		}
	}
	e, _ := schema.Check(t.Schema)
	note(e != api.OK, api.ErrForm, -1)
	note(len(t.Rows) > 2000, api.ErrLong, -1)
	for i, r := range t.Rows {
		note(len(r.Values) != len(t.Schema.Columns), api.ErrForm, i)
		note(t.Schema.Public && r.Owner != 0, api.ErrRange, i)
		note(!t.Schema.Public && (r.Owner < 1 || r.Owner > 1000000), api.ErrRange, i)
		for k, v := range r.Values {
			if k < len(t.Schema.Columns) {
				c := t.Schema.Columns[k]
				note(v < c.Lo || v > c.Hi, api.ErrRange, i)
			}
		}
		rows := 0
		for _, other := range t.Rows[:i+1] {
			if other.Owner == r.Owner {
				rows++
			}
		}
		note(!t.Schema.Public && rows > t.Schema.Many, api.ErrFull, i)
	}
	return l
}

// wanted is the first error of a table, wantedBase that of a base.
func wanted(t api.Table) checked { return append(faults(t), checked{api.OK, -1})[0] }

func wantedBase(b []api.Table) checkedBase {
	var l []api.Schema
	for _, t := range b {
		l = append(l, t.Schema)
	}
	if e, i, _ := schema.CheckAll(l); e != api.OK {
		return checkedBase{e, i, -1}
	}
	for i, t := range b {
		if w := wanted(t); w.e != api.OK {
			return checkedBase{w.e, i, w.row}
		}
	}
	return checkedBase{api.OK, -1, -1}
}

// expect checks what Check says of a table, expectBase what CheckBase says of a base.
func expect(t *testing.T, x api.Table, want checked) {
	t.Helper()
	unchanged(t, base(x), func() {
		if e, row := table.Check(x); e != want.e || row != want.row {
			t.Errorf("%s: %d, %d instead of %v", brief(x), e, row, want)
		}
	})
}

func expectBase(t *testing.T, b []api.Table, want checkedBase) {
	t.Helper()
	unchanged(t, b, func() {
		if e, i, row := table.CheckBase(b); e != want.e || i != want.table || row != want.row {
			t.Errorf("%d tables: %d, %d, %d instead of %v", len(b), e, i, row, want)
		}
	})
}

// brief describes a table for a message.
func brief(t api.Table) string {
	text := strconv.Quote(t.Schema.Name) + " (many " + strconv.Itoa(t.Schema.Many) + ")"
	for i, r := range t.Rows {
		if i == 10 {
			return text + "; and so on, " + strconv.Itoa(len(t.Rows)) + " rows"
		}
		text += "; " + strconv.Itoa(r.Owner) + ":"
		for _, v := range r.Values {
			text += " " + strconv.Itoa(v)
		}
	}
	return text
}

func briefBase(b []api.Table) string {
	var l []string
	for _, t := range b {
		l = append(l, brief(t))
	}
	return "[" + strings.Join(l, " | ") + "]"
}

// plainOwners lists the owners of a base, ascending. It looks through the rows for each of them.
func plainOwners(b []api.Table) []int {
	var l []int
	for _, t := range b {
		for _, r := range t.Rows {
			if !t.Schema.Public && !slices.Contains(l, r.Owner) {
				l = append(l, r.Owner)
			}
		}
	}
	slices.Sort(l)
	return l
}

// plainWithout and plainWithoutOf delete the rows of an owner, one after the other.
func plainWithout(t api.Table, owner int) api.Table {
	t = deepCopy(t)
	if t.Schema.Public {
		return t
	}
	for i := len(t.Rows) - 1; i >= 0; i-- {
		if t.Rows[i].Owner == owner {
			t.Rows = slices.Delete(t.Rows, i, i+1)
		}
	}
	return t
}

func plainWithoutOf(b []api.Table, owner int) []api.Table {
	b = slices.Clone(b)
	for i := range b {
		b[i] = plainWithout(b[i], owner)
	}
	return b
}

// pair is what Neighbours and NeighboursOf return.
type pair struct {
	owner int
	ok    bool
}

// wantedPair is what the chapter says of two bases: it takes out each owner of either one, the smallest one first.
func wantedPair(a, b []api.Table) pair {
	found := []int{}
	for _, owner := range plainOwners(a) {
		if equalBases(plainWithoutOf(a, owner), b) {
			found = append(found, owner)
		}
	}
	for _, owner := range plainOwners(b) {
		if equalBases(plainWithoutOf(b, owner), a) {
			found = append(found, owner)
		}
	}
	if len(found) == 0 {
		return pair{}
	}
	return pair{slices.Min(found), true}
}

// expectPair checks what NeighboursOf says of two bases, and Neighbours of two tables if the bases have one each, in either order.
func expectPair(t *testing.T, a, b []api.Table, want pair) {
	t.Helper()
	unchanged(t, slices.Concat(a, b), func() {
		for _, x := range [][2][]api.Table{{a, b}, {b, a}} {
			if owner, ok := table.NeighboursOf(x[0], x[1]); owner != want.owner || ok != want.ok {
				t.Errorf("%s and %s: %d, %v instead of %v", briefBase(x[0]), briefBase(x[1]), owner, ok, want)
			}
			if len(a) != 1 || len(b) != 1 {
				continue
			}
			if owner, ok := table.Neighbours(x[0][0], x[1][0]); owner != want.owner || ok != want.ok {
				t.Errorf("%s and %s: %d, %v instead of %v", brief(x[0][0]), brief(x[1][0]), owner, ok, want)
			}
		}
	})
}

// tables calls f with each table of a schema that has up to most of some rows, in each order and with repetitions.
func tables(s api.Schema, rows []api.Row, most int, f func(t api.Table)) {
	f(deepCopy(api.Table{Schema: s}))
	var extend func(chosen []api.Row)
	extend = func(chosen []api.Row) {
		if len(chosen) == most {
			return
		}
		for _, r := range rows {
			longer := append(slices.Clone(chosen), r)
			f(deepCopy(api.Table{Schema: s, Rows: longer}))
			extend(longer)
		}
	}
	extend(nil)
}

// listed returns the tables with which tables calls its function.
func listed(s api.Schema, rows []api.Row, most int) []api.Table {
	var l []api.Table
	tables(s, rows, most, func(t api.Table) { l = append(l, t) })
	return l
}
