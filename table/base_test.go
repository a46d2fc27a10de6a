package table_test

import (
	"slices"
	"strconv"
	"testing"

	"privhouse/api"
	"privhouse/table"
)

// acceptedBase is what CheckBase says of a base without errors.
var acceptedBase = checkedBase{api.OK, -1, -1}

// named returns a table with another name.
func named(name string, x api.Table) api.Table {
	x.Schema.Name = name
	return x
}

func TestCheckBase(t *testing.T) { // P12.2
	good, full, wide := of(people(), "1: 30 0; 2: 31 1"), of(people(), "1: 1 1; 1: 1 1; 1: 1 1"), of(people(), "1: 30 0; 2: 121 0")
	for _, x := range []struct {
		b    []api.Table
		want checkedBase
	}{
		{nil, acceptedBase},
		{base(), acceptedBase},
		{base(of(people(), "")), acceptedBase},
		{base(of(people(), ""), of(places(), ""), of(pets(), "")), acceptedBase},
		{base(good, of(places(), "0: 1 1; 0: 1 1; 0: 1 1"), of(pets(), "1: 2; 2: 1")), acceptedBase},
		{base(good, named("more", good), named("most", good)), acceptedBase},
		{base(full), checkedBase{api.ErrFull, 0, 2}},
		{base(good, named("more", full)), checkedBase{api.ErrFull, 1, 2}},
		{base(named("more", wide), full), checkedBase{api.ErrRange, 0, 1}},
		{base(full, named("more", wide)), checkedBase{api.ErrFull, 0, 2}},
		{base(good, named("more", full), named("most", wide)), checkedBase{api.ErrFull, 1, 2}},
		{base(good, named("more", wide), named("most", full)), checkedBase{api.ErrRange, 1, 1}},
		{base(good, good), checkedBase{api.ErrDouble, 1, -1}},
		{base(full, good), checkedBase{api.ErrDouble, 1, -1}},
		{base(full, of(places(), "5: 1 1"), good), checkedBase{api.ErrDouble, 2, -1}},
		{base(full, named("of", good)), checkedBase{api.ErrName, 1, -1}},
		{base(named("of", full), good), checkedBase{api.ErrName, 0, -1}},
		{base(full, api.Table{}), checkedBase{api.ErrName, 1, -1}},
		{base(good, of(places(), "0: 1 1; 0: 1 1; 0: 1"), of(pets(), "1: 3")), checkedBase{api.ErrForm, 1, 2}},
		{base(good, of(places(), ""), of(pets(), "1: 3")), checkedBase{api.ErrRange, 2, 0}},
		{base(good, named("long", repeated(people(), ascending(1, 2001)...)), named("more", full)), checkedBase{api.ErrLong, 1, -1}},
		{base(full, named("long", repeated(people(), ascending(1, 2001)...))), checkedBase{api.ErrFull, 0, 2}},
	} {
		expectBase(t, x.b, x.want)
	}
}

func TestCheckBaseWithOwnersInSeveralTables(t *testing.T) { // P12.2
	// An owner may have Many rows in each table.
	x := of(people(), "1: 1 1; 1: 2 1; 2: 3 1; 2: 4 1")
	expectBase(t, base(x, named("more", x), named("most", x)), acceptedBase)
	expectBase(t, base(of(pets(), "1: 0"), named("more", of(pets(), "1: 0"))), acceptedBase)
}

func TestCheckBaseWithManyTables(t *testing.T) { // P12.2
	for _, n := range []int{1, 15, 16, 17, 18, 100} {
		var b []api.Table
		for i := range n {
			b = append(b, named("t"+strconv.Itoa(i), of(people(), "1: 30 0; 2: 31 1")))
		}
		want := acceptedBase
		if n > 16 {
			want = checkedBase{api.ErrLong, 16, -1}
		}
		expectBase(t, b, want)
		b[n-1].Rows[1].Owner = 0
		if n <= 16 {
			want = checkedBase{api.ErrRange, n - 1, 1}
		}
		expectBase(t, b, want)
		b[0].Schema.Name = ""
		if n <= 16 {
			want = checkedBase{api.ErrName, 0, -1}
		}
		expectBase(t, b, want)
	}
}

func TestCheckBaseOfFullTables(t *testing.T) { // P12.2
	var b []api.Table
	for i := range 16 {
		b = append(b, named("t"+strconv.Itoa(i), repeated(people(), ascending(1, 2000)...)))
	}
	expectBase(t, b, acceptedBase)
	b[15].Rows[1999].Values = []int{0}
	expectBase(t, b, checkedBase{api.ErrForm, 15, 1999})
	b[7].Rows = append(b[7].Rows, b[7].Rows[0])
	expectBase(t, b, checkedBase{api.ErrLong, 7, -1})
	b[15].Schema.Name = "t3"
	expectBase(t, b, checkedBase{api.ErrDouble, 15, -1})
}

func TestCheckBaseOrder(t *testing.T) { // P12.2
	double := change{checkedBase{api.ErrDouble, 1, -1}, []string{"schema/0", "schema/1"}, func(b []api.Table) { b[1].Schema.Name = b[0].Schema.Name }}
	l := slices.Concat(schemaChanges(0), schemaChanges(1), []change{double}, rowChanges(0, single()[0]), rowChanges(1, single()[1]))
	pairs := combined(l, func(b []api.Table, first change) { expectBase(t, b, first.want) })
	if pairs < 500 {
		t.Error("only", pairs, "pairs of errors")
	}
}

func TestCheckBaseOfAllSmallBases(t *testing.T) { // P12.2
	bad := of(places(), "1: 0 0")
	bad.Schema.Many = 1
	l := base(of(people(), ""), of(people(), "1: 1 1; 1: 1"), of(people(), "1: 1 1; 1: 1 1; 1: 1 1"), of(places(), "0: 1 1"), of(places(), "0: 1 1; 2: 1 1"), of(pets(), "1: 1; 2: 1"), of(pets(), "1: 1; 1: 1"), of(pets(), "3: 5"), named("else", of(pets(), "1: 1")), bad, repeated(people(), ascending(1, 2001)...), api.Table{})
	for _, x := range l {
		expectBase(t, base(x), wantedBase(base(x)))
		for _, y := range l {
			expectBase(t, base(x, y), wantedBase(base(x, y)))
			for _, z := range l {
				expectBase(t, base(x, y, z), wantedBase(base(x, y, z)))
			}
		}
	}
}

func TestSchemas(t *testing.T) { // P12.2
	for _, b := range [][]api.Table{nil, {}, base(of(people(), "1: 1 1")), base(of(places(), ""), of(people(), "1: 1 1"), of(pets(), "2: 2")), base(of(pets(), ""), of(people(), ""), of(places(), "0: 0 0")), base(of(people(), ""), of(people(), "")), base(api.Table{}, of(people(), "9: 9 9"), named("of", of(pets(), ""))), make([]api.Table, 20)} {
		unchanged(t, b, func() {
			l := table.Schemas(b)
			if len(l) != len(b) {
				t.Fatal(len(l), "schemas of", len(b), "tables")
			}
			for i, s := range l {
				if !equalSchemas(s, b[i].Schema) {
					t.Errorf("table %d: %+v instead of %+v", i, s, b[i].Schema)
				}
			}
		})
	}
}
