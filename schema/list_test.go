package schema_test

import (
	"math"
	"testing"

	"privhouse/api"
	"privhouse/schema"
)

func TestCheckAllExamples(t *testing.T) { // P11.3
	s := of(age(), colour())
	expectAll(t, []api.Schema{s, s}, checkedAll{api.ErrDouble, 1, -1})
	expectAll(t, make([]api.Schema, 17), checkedAll{api.ErrLong, 16, -1})
	expectAll(t, nil, checkedAll{api.OK, -1, -1})
	expectAll(t, []api.Schema{}, checkedAll{api.OK, -1, -1})
	expectAll(t, []api.Schema{s}, checkedAll{api.OK, -1, -1})
}

func TestCheckAllNumber(t *testing.T) { // P11.3
	for n := range 40 {
		want := checkedAll{api.OK, -1, -1}
		if n > 16 {
			want = checkedAll{api.ErrLong, 16, -1}
		}
		expectAll(t, schemas(n), want)
		if n > 16 {
			// The number goes before errors of tables and double names.
			for i := range n {
				l := schemas(n)
				l[i].Name = ""
				expectAll(t, l, want)
				l[i].Name = l[(i+1)%n].Name
				expectAll(t, l, want)
			}
		}
	}
}

func TestCheckAllDouble(t *testing.T) { // P11.3
	for i := range 16 {
		for k := range i {
			l := schemas(16)
			l[i].Name = l[k].Name
			expectAll(t, l, checkedAll{api.ErrDouble, i, -1})
			expectAll(t, l[:i], checkedAll{api.OK, -1, -1})
			// An error of the table itself goes before its double name, one of a later table does not.
			l[i].Columns = []api.Column{age(), between("x", 1, 0)}
			expectAll(t, l, checkedAll{api.ErrRange, i, 1})
			l[i].Many = -1
			expectAll(t, l, checkedAll{api.ErrRange, i, -1})
			l = schemas(16)
			l[i].Name = l[k].Name
			l[15].Columns = append(l[15].Columns, colour(), colour())
			if i < 15 {
				expectAll(t, l, checkedAll{api.ErrDouble, i, -1})
			} else {
				expectAll(t, l, checkedAll{api.ErrDouble, 15, len(l[15].Columns) - 1})
			}
			// Of two tables with a name that is none, the first one has the error.
			l = schemas(16)
			l[i].Name, l[k].Name = "none", "none"
			expectAll(t, l, checkedAll{api.ErrName, k, -1})
		}
	}
}

// tables returns tables to be put together: valid ones, with the same name and other ones, and some with errors.
func tables() []api.Schema {
	return []api.Schema{
		of(age()), of(colour(), age()), {Name: "places", Public: true, Columns: []api.Column{colour()}}, {Name: "visits", Many: 50, Columns: columns(16)},
		of(), of(between("age", 5, 4)), of(age(), colour(), words("x", "a", "a")), of(age(), age()), of(columns(17)...), of(colour(), between("", 0, 1)),
		{Name: "sum", Many: 1, Columns: columns(1)}, {Name: "places", Public: true, Many: 1, Columns: columns(1)}, {Name: "places", Columns: columns(1)}, {Name: "visits", Many: 1, Columns: []api.Column{words("x", "a", "sum")}},
		{Name: "age", Many: 1, Columns: []api.Column{age()}}, {},
	}
}

func TestCheckAllOrder(t *testing.T) { // P11.3
	for _, a := range tables() {
		expectAll(t, []api.Schema{a}, wantedAll([]api.Schema{a}))
		for _, b := range tables() {
			expectAll(t, []api.Schema{a, b}, wantedAll([]api.Schema{a, b}))
			for _, c := range tables() {
				expectAll(t, []api.Schema{a, b, c}, wantedAll([]api.Schema{a, b, c}))
				// Columns of other tables do not count.
				l := append(schemas(13), a, b, c)
				expectAll(t, l, wantedAll(l))
			}
		}
	}
}

// looked checks what Find or Column has returned.
func looked(t *testing.T, want int, wantFound bool) func(i int, found bool) {
	return func(i int, found bool) {
		t.Helper()
		if i != want || found != wantFound {
			t.Error(i, found, "instead of", want, wantFound)
		}
	}
}

func TestFind(t *testing.T) { // P11.4
	s := of(age(), colour())
	looked(t, 0, true)(schema.Find([]api.Schema{s}, "people"))
	looked(t, 0, false)(schema.Find([]api.Schema{s}, "age"))
	for _, l := range [][]api.Schema{nil, {}} {
		looked(t, 0, false)(schema.Find(l, "people"))
		looked(t, 0, false)(schema.Find(l, ""))
	}
	l := schemas(30)
	for i, s := range l {
		looked(t, i, true)(schema.Find(l, s.Name))
		looked(t, 0, false)(schema.Find(l[:i], s.Name))
		looked(t, 0, i > 0)(schema.Find(l[:i], "t0"))
	}
	for _, name := range []string{"", "t", "t30", "T0", "t0 ", " t0", "c0", "from", "t00"} {
		looked(t, 0, false)(schema.Find(l, name))
	}
	for i := range l {
		for k := range i {
			l := schemas(30)
			l[i].Name, l[k].Name = "several", "several"
			looked(t, k, true)(schema.Find(l, "several"))
			looked(t, 0, true)(schema.Find(l[i:], "several"))
			looked(t, 0, false)(schema.Find(l, "several "))
		}
	}
}

func TestColumn(t *testing.T) { // P11.4
	s := of(age(), colour())
	looked(t, 1, true)(schema.Column(s, "colour"))
	looked(t, 0, true)(schema.Column(s, "age"))
	looked(t, 0, false)(schema.Column(s, "people"))
	looked(t, 0, false)(schema.Column(s, "red"))
	for _, s := range []api.Schema{{}, of(), {Name: "age", Columns: []api.Column{}}} {
		looked(t, 0, false)(schema.Column(s, "age"))
		looked(t, 0, false)(schema.Column(s, ""))
	}
	l := columns(30)
	for i, c := range l {
		looked(t, i, true)(schema.Column(of(l...), c.Name))
		looked(t, 0, false)(schema.Column(of(l[:i]...), c.Name))
		for k := range i {
			l := columns(30)
			l[i].Name, l[k].Name = "several", "several"
			looked(t, k, true)(schema.Column(of(l...), "several"))
			looked(t, 0, true)(schema.Column(of(l[i:]...), "several"))
			looked(t, 0, false)(schema.Column(of(l...), "several "))
		}
	}
	for _, name := range []string{"", "c", "c30", "C0", "c0 ", " c0", "w0", "from", "c00"} {
		looked(t, 0, false)(schema.Column(of(l...), name))
	}
}

func TestLookUpInWhatIsNotValid(t *testing.T) { // P11.4
	l := []api.Schema{{Name: "a", Many: math.MinInt}, {}, {Name: "sum"}}
	looked(t, 0, true)(schema.Find(l, "a"))
	looked(t, 2, true)(schema.Find(l, "sum"))
	looked(t, 0, false)(schema.Find(l, "b"))
	s := api.Schema{Columns: []api.Column{{Name: "a", Lo: 1}, {Name: "sum"}}}
	looked(t, 0, true)(schema.Column(s, "a"))
	looked(t, 1, true)(schema.Column(s, "sum"))
	looked(t, 0, false)(schema.Column(s, "b"))
}
