package table_test

import (
	"math/rand"
	"slices"
	"strconv"
	"testing"

	"privhouse/api"
	"privhouse/table"
)

// others returns a list without an owner.
func others(owners []int, owner int) []int {
	return slices.DeleteFunc(slices.Clone(owners), func(o int) bool { return o == owner })
}

// checkWithout checks P12.6 for a table, with each owner and each two owners, and some numbers of nobody.
func checkWithout(t *testing.T, x api.Table) {
	t.Helper()
	e, _ := table.Check(x)
	owners := table.Owners(x)
	for _, one := range append(slices.Clone(owners), 0, 12345) {
		rest := table.Without(x, one)
		if got := table.Owners(rest); !slices.Equal(got, others(owners, one)) {
			t.Errorf("%s has the owners %v, and %v without %d", brief(x), owners, got, one)
		}
		if e == api.OK {
			expect(t, rest, accepted)
		}
		same(t, rest, table.Without(rest, one), true)
		for _, two := range owners {
			same(t, table.Without(rest, two), table.Without(table.Without(x, two), one), true)
		}
	}
}

// checkNeighbours checks P12.7 for a base, with each owner. Without two owners, the base is no neighbour.
func checkNeighbours(t *testing.T, b []api.Table) {
	t.Helper()
	e, _, _ := table.CheckBase(b)
	owners := table.OwnersOf(b)
	expectPair(t, b, b, noPair)
	for _, one := range owners {
		rest := table.WithoutOf(b, one)
		expectPair(t, b, rest, pair{one, true})
		if got := table.OwnersOf(rest); !slices.Equal(got, others(owners, one)) {
			t.Errorf("%s has the owners %v, and %v without %d", briefBase(b), owners, got, one)
		}
		if e == api.OK {
			expectBase(t, rest, acceptedBase)
		}
		for _, two := range others(owners, one) {
			neither := table.WithoutOf(rest, two)
			expectPair(t, b, neither, noPair)
			expectPair(t, rest, neither, pair{two, true})
			expectPair(t, rest, table.WithoutOf(b, two), noPair)
			if !equalBases(neither, table.WithoutOf(table.WithoutOf(b, two), one)) {
				t.Errorf("%s without %d and %d depends on the order", briefBase(b), one, two)
			}
		}
	}
}

func TestSmallTablesWithoutOwners(t *testing.T) { // P12.6
	rows := of(people(), "1: 0 0; 1: 9 1; 2: 0 0; 3: 120 1").Rows
	valid := 0
	for many := 1; many <= 4; many++ {
		s := people()
		s.Many = many
		tables(s, rows, 4, func(x api.Table) {
			if wanted(x).e == api.OK {
				valid++
			}
			checkWithout(t, x)
		})
	}
	if valid < 500 {
		t.Error("only", valid, "tables are valid")
	}
	tables(places(), of(places(), "0: 0 0; 0: 1 1; 1: 2 1").Rows, 4, func(x api.Table) { checkWithout(t, x) })
	// Tables that are not valid, besides those with too many rows of an owner.
	tables(people(), of(people(), "0: 0 0; -1: 0 0; -1: 0; 1: 0 9").Rows, 3, func(x api.Table) { checkWithout(t, x) })
}

func TestSmallBasesWithoutOwners(t *testing.T) { // P12.6, P12.7
	for _, x := range listed(people(), of(people(), "1: 0 0; 2: 0 0; 3: 0 0").Rows, 3) {
		checkNeighbours(t, base(x))
		for _, y := range listed(pets(), of(pets(), "1: 0; 2: 1").Rows, 2) {
			checkNeighbours(t, base(x, y))
			checkNeighbours(t, base(of(places(), "0: 1 1; 0: 2 1"), y, x))
			checkNeighbours(t, base(y, of(places(), "1: 1 1; 2: 2 1"), x))
		}
	}
}

// anyBase returns a base with up to four tables and up to twenty rows in each, which is mostly valid.
func anyBase(r *rand.Rand) []api.Table {
	var b []api.Table
	for i := range 1 + r.Intn(4) {
		x := api.Table{Schema: []api.Schema{people(), places(), pets()}[r.Intn(3)]}
		x.Schema.Name = "t" + strconv.Itoa(i)
		if !x.Schema.Public {
			x.Schema.Many = 1 + r.Intn(9)
		}
		for range r.Intn(20) {
			row := api.Row{Owner: 1 + r.Intn(5)}
			if x.Schema.Public {
				row.Owner = 0
			}
			for _, c := range x.Schema.Columns {
				row.Values = append(row.Values, c.Lo+r.Intn(c.Hi-c.Lo+1))
			}
			if r.Intn(300) == 0 {
				row.Values = row.Values[1:]
			}
			if r.Intn(300) == 0 {
				row.Owner = r.Intn(3) - 1
			}
			x.Rows = append(x.Rows, row)
		}
		b = append(b, x)
	}
	return b
}

func TestAnyBases(t *testing.T) { // P12.1, P12.2, P12.3, P12.4, P12.6, P12.7
	r := rand.New(rand.NewSource(12))
	number := 0
	for range 400 {
		b := anyBase(r)
		want := wantedBase(b)
		expectBase(t, b, want)
		if want == acceptedBase {
			number++
		}
		for _, x := range b {
			expect(t, x, wanted(x))
			checkWithout(t, x)
		}
		owned(t, b, plainOwners(b)...)
		checkNeighbours(t, b)
		other := plainWithoutOf(b, 1+r.Intn(5))
		if x := &other[r.Intn(len(other))]; len(x.Rows) > 0 {
			k := r.Intn(len(x.Rows))
			x.Rows = slices.Delete(x.Rows, k, k+1)
		}
		expectPair(t, b, other, wantedPair(b, other))
	}
	if number < 100 || number > 350 {
		t.Error(number, "bases are accepted, out of 400")
	}
}
