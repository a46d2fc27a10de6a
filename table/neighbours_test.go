package table_test

import (
	"math"
	"slices"
	"strconv"
	"testing"

	"privhouse/api"
)

// noPair is what Neighbours says of tables that are no neighbours.
var noPair = pair{}

func TestNeighboursExamples(t *testing.T) { // P12.4
	s := people()
	x := of(s, "1: 30 0; 2: 31 1; 1: 32 0")
	expectPair(t, base(x), base(of(s, "2: 31 1")), pair{1, true})
	expectPair(t, base(x), base(x), noPair)
	expectPair(t, base(of(s, "1: 30 0")), base(of(s, "2: 30 0")), noPair)
}

func TestNeighbours(t *testing.T) { // P12.4
	s := people()
	for _, x := range []struct {
		a, b string
		want pair
	}{
		{"", "", noPair},
		{"5: 1 1", "", pair{5, true}},
		{"5: 1 1; 5: 2 1; 5: 3 0", "", pair{5, true}},
		{"5: 1 1; 6: 2 1", "", noPair},
		{"1: 1 1; 2: 2 1; 3: 3 1", "2: 2 1; 3: 3 1", pair{1, true}},
		{"1: 1 1; 2: 2 1; 3: 3 1", "1: 1 1; 3: 3 1", pair{2, true}},
		{"1: 1 1; 2: 2 1; 3: 3 1", "1: 1 1; 2: 2 1", pair{3, true}},
		// Two owners more.
		{"1: 1 1; 2: 2 1; 3: 3 1", "1: 1 1", noPair},
		{"1: 1 1; 2: 2 1; 3: 3 1", "2: 2 1", noPair},
		{"1: 1 1; 2: 2 1; 3: 3 1", "3: 3 1", noPair},
		// One row of two, or two of three, missing.
		{"1: 1 1; 2: 2 1; 1: 3 1", "1: 1 1; 2: 2 1", noPair},
		{"1: 1 1; 2: 2 1; 1: 3 1", "2: 2 1; 1: 3 1", noPair},
		{"1: 1 1; 2: 2 1; 1: 3 1", "2: 2 1", pair{1, true}},
		{"1: 1 1; 1: 1 1", "1: 1 1", noPair},
		{"1: 1 1; 1: 1 1; 2: 0 0; 1: 1 1", "1: 1 1; 2: 0 0", noPair},
		{"1: 1 1; 1: 1 1; 2: 0 0; 1: 1 1", "2: 0 0", pair{1, true}},
		// Another order.
		{"1: 1 1; 2: 2 1", "2: 2 1; 1: 1 1", noPair},
		{"1: 1 1; 2: 2 1; 3: 3 1", "3: 3 1; 2: 2 1", noPair},
		{"1: 1 1; 2: 2 1; 2: 3 1", "2: 3 1; 2: 2 1", noPair},
		{"2: 2 1; 3: 3 1; 2: 4 1; 1: 1 1", "3: 3 1; 2: 2 1; 2: 4 1", noPair},
		// Another owner with the same values, other values, other numbers of values.
		{"1: 1 1; 2: 1 1", "3: 1 1", noPair},
		{"1: 1 1; 2: 2 1", "2: 2 0", noPair},
		{"1: 1 1; 2: 2 1", "2: 2", noPair},
		{"1: 1 1; 2: 2 1", "2:", noPair},
		{"1: 1 1; 2: 2 1", "2: 2 1 0", noPair},
		{"1: 1 1; 2: 1 1; 3: 1 1", "1: 1 1; 1: 1 1", noPair},
		// One owner more on each side.
		{"1: 1 1; 2: 2 1", "2: 2 1; 3: 3 1", noPair},
		{"1: 1 1; 3: 2 1", "2: 1 1; 3: 2 1", noPair},
		{"1: 1 1; 3: 2 1", "2: 1 1; 2: 1 1; 3: 2 1", noPair},
		// One owner more, and other rows besides.
		{"1: 1 1; 2: 2 1; 3: 3 1", "2: 2 1; 3: 4 1", noPair},
		{"1: 1 1; 2: 2 1; 3: 3 1", "2: 2 1; 4: 3 1", noPair},
		{"1: 1 1; 2: 2 1; 3: 3 1; 1: 4 1", "2: 2 1; 3: 3 1; 1: 4 1", noPair},
		// The rows that are left begin like those that are not.
		{"2: 1 1; 1: 1 1; 2: 1 1; 1: 1 1", "2: 1 1; 2: 1 1", pair{1, true}},
		{"2: 1 1; 1: 1 1; 2: 1 1; 1: 1 1", "1: 1 1; 1: 1 1", pair{2, true}},
	} {
		expectPair(t, base(of(s, x.a)), base(of(s, x.b)), x.want)
		if w := wantedPair(base(of(s, x.a)), base(of(s, x.b))); w != x.want {
			t.Error("the test's own answer is", w)
		}
	}
}

func TestNeighboursThatAreNotValid(t *testing.T) { // P12.4
	s := people()
	expectPair(t, base(of(s, "0: 1 1; 1: 2 1")), base(of(s, "1: 2 1")), pair{0, true})
	expectPair(t, base(of(s, "-4: 1 1; 1: 2; -4:")), base(of(s, "1: 2")), pair{-4, true})
	expectPair(t, base(repeated(s, math.MinInt, 3, math.MaxInt)), base(repeated(s, 3, math.MaxInt)), pair{math.MinInt, true})
	expectPair(t, base(repeated(s, math.MinInt, 3, math.MaxInt)), base(repeated(s, math.MinInt, 3)), pair{math.MaxInt, true})
	expectPair(t, base(repeated(api.Schema{}, 1, 2)), base(repeated(api.Schema{}, 1)), pair{2, true})
	expectPair(t, base(repeated(s, 1, 1, 1, 1, 2)), base(repeated(s, 2)), pair{1, true})
	expectPair(t, base(api.Table{}), base(api.Table{}), noPair)
}

func TestNeighboursWithEmptyLists(t *testing.T) { // P12.4
	more, less := of(people(), "1: 1 1"), api.Table{Schema: people(), Rows: []api.Row{}}
	expectPair(t, base(more), base(less), pair{1, true})
	less.Schema.Columns[0].Words = []string{}
	expectPair(t, base(more), base(less), pair{1, true})
	expectPair(t, base(less), base(of(people(), "")), noPair)
	more = api.Table{Schema: people(), Rows: []api.Row{{Owner: 1, Values: []int{}}, {Owner: 2}}}
	less = api.Table{Schema: people(), Rows: []api.Row{{Owner: 1}}}
	expectPair(t, base(more), base(less), pair{2, true})
}

func TestNeighboursWithOtherSchemas(t *testing.T) { // P12.4
	for _, text := range []string{"", "1: 1 1", "2: 2 1", "1: 1 1; 2: 2 1"} {
		for _, change := range schemaElements() {
			x := of(people(), text)
			change(&x.Schema)
			expectPair(t, base(x), base(of(people(), "1: 1 1")), noPair)
			expectPair(t, base(x), base(of(people(), "")), noPair)
			expectPair(t, base(of(pets(), "5: 1"), x), base(of(pets(), ""), of(people(), text)), noPair)
			expectPair(t, base(x, of(pets(), "5: 1")), base(of(people(), text), of(pets(), "")), noPair)
		}
	}
}

// schemaElements are changes of the schema people that each change a single element.
func schemaElements() []func(s *api.Schema) {
	return []func(s *api.Schema){
		func(s *api.Schema) { s.Name = "person" },
		func(s *api.Schema) { s.Public = true },
		func(s *api.Schema) { s.Many = 3 },
		func(s *api.Schema) { s.Columns = s.Columns[:1] },
		func(s *api.Schema) { s.Columns = append(s.Columns, api.Column{}) },
		func(s *api.Schema) { slices.Reverse(s.Columns) },
		func(s *api.Schema) { s.Columns[0].Name = "old" },
		func(s *api.Schema) { s.Columns[0].Lo = 1 },
		func(s *api.Schema) { s.Columns[0].Hi = 121 },
		func(s *api.Schema) { s.Columns[1].Words[0] = "blue" },
		func(s *api.Schema) { s.Columns[1].Words = append(s.Columns[1].Words, "blue") },
		func(s *api.Schema) { s.Columns[1].Words = nil },
	}
}

func TestNeighboursWithPublicTables(t *testing.T) { // P12.4
	p := places()
	expectPair(t, base(of(p, "0: 1 1; 0: 2 1")), base(of(p, "0: 1 1")), noPair)
	expectPair(t, base(of(p, "0: 1 1")), base(of(p, "")), noPair)
	expectPair(t, base(of(p, "1: 1 1; 2: 2 1")), base(of(p, "2: 2 1")), noPair)
	expectPair(t, base(of(p, "1: 1 1")), base(of(p, "1: 1 1")), noPair)
	more, less := of(people(), "1: 1 1; 2: 2 1"), of(people(), "2: 2 1")
	for _, x := range []struct {
		a, b string
		want pair
	}{
		{"", "", pair{1, true}},
		{"0: 1 1", "0: 1 1", pair{1, true}},
		{"1: 1 1; 0: 2 1", "1: 1 1; 0: 2 1", pair{1, true}},
		{"0: 1 1", "0: 2 1", noPair},
		{"0: 1 1", "0: 1", noPair},
		{"0: 1 1", "", noPair},
		{"1: 1 1", "", noPair},
		{"1: 1 1; 0: 2 1", "0: 2 1", noPair},
		{"1: 1 1", "0: 1 1", noPair},
	} {
		expectPair(t, base(more, of(p, x.a)), base(less, of(p, x.b)), x.want)
		expectPair(t, base(more, of(p, x.b)), base(less, of(p, x.a)), x.want)
		expectPair(t, base(of(p, x.a), more), base(of(p, x.b), less), x.want)
		expectPair(t, base(of(p, x.b), more), base(of(p, x.a), less), x.want)
		expectPair(t, base(of(p, x.a), less), base(of(p, x.b), less), noPair)
	}
}

func TestNeighboursOfBases(t *testing.T) { // P12.4
	x := func(text string) api.Table { return of(people(), text) }
	y := func(text string) api.Table { return of(pets(), text) }
	for _, c := range []struct {
		a, b []api.Table
		want pair
	}{
		{nil, nil, noPair},
		{nil, base(), noPair},
		{nil, base(x("1: 1 1")), noPair},
		{nil, base(x("")), noPair},
		{base(x("1: 1 1"), y("1: 1")), base(x("1: 1 1")), noPair},
		{base(x("1: 1 1"), y("")), base(x("")), noPair},
		{base(x("1: 1 1; 2: 1 1")), base(x("2: 1 1"), y("")), noPair},
		{base(x("1: 1 1"), y("2: 1")), base(y("2: 1"), x("1: 1 1")), noPair},
		{base(x("1: 1 1"), y("2: 1")), base(x("1: 1 1"), y("")), pair{2, true}},
		{base(x("1: 1 1"), y("2: 1")), base(x(""), y("2: 1")), pair{1, true}},
		{base(x("1: 1 1"), y("2: 1")), base(x(""), y("")), noPair},
		{base(x("1: 1 1"), y("")), base(x(""), y("2: 1")), noPair},
		// An owner with rows in two tables.
		{base(x("1: 1 1; 2: 2 1"), y("1: 1; 3: 0")), base(x("2: 2 1"), y("3: 0")), pair{1, true}},
		{base(x("1: 1 1; 2: 2 1"), y("1: 1; 3: 0")), base(x("2: 2 1"), y("1: 1; 3: 0")), noPair},
		{base(x("1: 1 1; 2: 2 1"), y("1: 1; 3: 0")), base(x("1: 1 1; 2: 2 1"), y("3: 0")), noPair},
		{base(x("1: 1 1"), y("1: 1")), base(x(""), y("")), pair{1, true}},
		{base(x("1: 1 1"), y("1: 1")), base(x(""), y("1: 1")), noPair},
		{base(x("1: 1 1"), y("1: 1")), base(x("1: 1 1"), y("")), noPair},
		{base(x("1: 1 1"), y("1: 1; 2: 1")), base(x(""), y("1: 1")), noPair},
		{base(x("1: 1 1; 1: 2 1"), y("")), base(x("1: 1 1"), y("")), noPair},
		// The owner's rows are exchanged between the bases.
		{base(x("1: 1 1"), y("")), base(x(""), y("1: 1")), noPair},
		// The same tables twice.
		{base(x("1: 1 1"), x("1: 1 1"), x("2: 1 1")), base(x(""), x(""), x("2: 1 1")), pair{1, true}},
		{base(x("1: 1 1"), x("1: 1 1"), x("2: 1 1")), base(x(""), x("1: 1 1"), x("2: 1 1")), noPair},
	} {
		expectPair(t, c.a, c.b, c.want)
		if w := wantedPair(c.a, c.b); w != c.want {
			t.Error("the test's own answer is", w)
		}
	}
}

// expectPairs checks what NeighboursOf says of all pairs of some bases, which with each base contain the base without each of its owners.
func expectPairs(t *testing.T, bases [][]api.Table) {
	t.Helper()
	number, found := 0, 0
	for i, a := range bases {
		number += len(plainOwners(a))
		for _, b := range bases[i:] {
			want := wantedPair(a, b)
			expectPair(t, a, b, want)
			if want.ok {
				found++
			}
		}
	}
	// Each owner of each base leads to a pair of its own.
	if found != number {
		t.Error(found, "pairs of neighbours instead of", number)
	}
}

func TestNeighboursOfAllSmallTables(t *testing.T) { // P12.4
	for _, s := range []api.Schema{people(), places()} {
		var bases [][]api.Table
		for _, x := range listed(s, of(s, "1: 0 0; 1: 1 0; 2: 0 0; 3: 0 0").Rows, 3) {
			bases = append(bases, base(x))
		}
		for _, x := range listed(s, of(s, "1: 0 0; 2: 0 0").Rows, 6) {
			if len(x.Rows) > 3 {
				bases = append(bases, base(x))
			}
		}
		expectPairs(t, bases)
	}
}

func TestNeighboursOfAllSmallBases(t *testing.T) { // P12.4
	var bases [][]api.Table
	for _, x := range listed(people(), of(people(), "1: 0 0; 2: 0 0").Rows, 2) {
		for _, y := range listed(places(), of(places(), "0: 0 0; 1: 0 0").Rows, 1) {
			for _, z := range listed(pets(), of(pets(), "1: 0; 2: 0; 1: 1").Rows, 2) {
				bases = append(bases, base(x, y, z))
			}
		}
		bases = append(bases, base(x), base(x, of(places(), "")))
	}
	expectPairs(t, bases)
}

func TestNeighboursOfLargeBases(t *testing.T) { // P12.4
	single := repeated(people(), ascending(1, 2000)...)
	for _, owner := range []int{1, 2, 1000, 1999, 2000} {
		expectPair(t, base(single), base(plainWithout(single, owner)), pair{owner, true})
		expectPair(t, base(single), base(plainWithout(plainWithout(single, owner), 500)), noPair)
	}
	var b []api.Table
	for i := range 16 {
		owners := append(slices.Repeat(ascending(1, 40), 49), slices.Repeat([]int{50 + i}, 40)...)
		b = append(b, named("t"+strconv.Itoa(i), repeated(people(), owners...)))
	}
	for _, owner := range []int{1, 20, 40, 50, 57, 65} {
		expectPair(t, b, plainWithoutOf(b, owner), pair{owner, true})
	}
	for _, i := range []int{0, 8, 15} {
		less := deepCopies(b)
		less[i] = plainWithout(less[i], 7)
		expectPair(t, b, less, noPair)
		less = plainWithoutOf(b, 7)
		less[i].Rows[1900].Values[1]++
		expectPair(t, b, less, noPair)
	}
}
