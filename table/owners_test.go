package table_test

import (
	"math"
	"slices"
	"testing"

	"privhouse/api"
	"privhouse/table"
)

// owned checks what OwnersOf says of a base, and Owners of a table that is a base's only one.
func owned(t *testing.T, b []api.Table, want ...int) {
	t.Helper()
	unchanged(t, b, func() {
		if got := table.OwnersOf(b); !slices.Equal(got, want) {
			t.Errorf("%s: owners %v instead of %v", briefBase(b), got, want)
		}
		if len(b) != 1 {
			return
		}
		if got := table.Owners(b[0]); !slices.Equal(got, want) {
			t.Errorf("%s: owners %v instead of %v", brief(b[0]), got, want)
		}
	})
}

func TestOwners(t *testing.T) { // P12.3
	owned(t, base(of(people(), "1: 30 0; 2: 31 1; 1: 32 0")), 1, 2)
	owned(t, base(of(people(), "")))
	owned(t, base(api.Table{Schema: people(), Rows: []api.Row{}}))
	owned(t, base(of(people(), "7: 1 1")), 7)
	owned(t, base(of(people(), "9: 1 1; 10: 1 1; 1: 1 1; 100: 1 1; 10: 2 1; 2: 1 1")), 1, 2, 9, 10, 100)
	owned(t, base(of(people(), "1000000: 1 1; 999999: 1 1; 1: 0 0")), 1, 999999, 1000000)
	owned(t, base(repeated(people(), ascending(1, 2000)...)), ascending(1, 2000)...)
	down := ascending(1, 2000)
	slices.Reverse(down)
	owned(t, base(repeated(people(), down...)), ascending(1, 2000)...)
	owned(t, base(repeated(people(), append(down, down...)...)), ascending(1, 2000)...)
}

func TestOwnersOfTablesThatAreNotValid(t *testing.T) { // P12.3
	owned(t, base(of(people(), "0: 1 1")), 0)
	owned(t, base(of(people(), "3: 1 1; -3: 1 1; 0: 1; -12: 9; 3: 500 500; 0: 1; 3: 1 1; -3:; 1000001: 1 1")), -12, -3, 0, 3, 1000001)
	owned(t, base(repeated(people(), math.MaxInt, 0, math.MinInt, 1, -1, math.MaxInt, math.MinInt)), math.MinInt, -1, 0, 1, math.MaxInt)
	owned(t, base(repeated(people(), 5, 5, 5, 5, 4)), 4, 5)
	owned(t, base(repeated(api.Schema{}, 3, -1)), -1, 3)
	owned(t, base(repeated(people(), ascending(-3000, 3000)...)), ascending(-3000, 3000)...)
	wrong := people()
	wrong.Many = -1
	owned(t, base(repeated(wrong, 2, 1)), 1, 2)
	owned(t, base(api.Table{}))
}

func TestOwnersOfPublicTables(t *testing.T) { // P12.3
	owned(t, base(of(places(), "0: 1 1; 0: 2 1")))
	owned(t, base(of(places(), "")))
	owned(t, base(of(places(), "1: 1 1; -5: 2 1; 0: 0 0; 7: 1")))
	wrong := people()
	wrong.Public = true
	owned(t, base(of(wrong, "1: 1 1; 2: 2 1")))
	owned(t, base(repeated(api.Schema{Public: true}, 3, -1)))
}

func TestOwnersOfBases(t *testing.T) { // P12.3
	owned(t, nil)
	owned(t, base())
	owned(t, base(of(people(), ""), of(places(), ""), of(pets(), "")))
	owned(t, base(of(people(), "3: 1 1; 1: 2 1"), of(pets(), "2: 1")), 1, 2, 3)
	owned(t, base(of(people(), "3: 1 1; 1: 2 1"), of(pets(), "3: 1; 2: 1; 1: 0")), 1, 2, 3)
	owned(t, base(of(people(), "3: 1 1; 1: 2 1"), of(places(), "1: 1 1; 3: 1 1; 4: 2 1; 0: 5 5"), of(pets(), "5: 1; 3: 1")), 1, 3, 5)
	owned(t, base(of(places(), "1: 1 1; 3: 1 1; 4: 2 1"), of(people(), "4: 1 1"), of(places(), "7: 2 2")), 4)
	owned(t, base(of(people(), ""), of(pets(), "9: 0")), 9)
	owned(t, base(of(people(), "9: 0 0"), of(pets(), "")), 9)
	owned(t, base(of(people(), "-1: 0"), of(pets(), "0: 0"), of(people(), "-1: 0; 5:")), -1, 0, 5)
	var b []api.Table
	for i := range 20 {
		b = append(b, repeated(people(), ascending(100-5*i, 104-5*i)...))
	}
	owned(t, b, ascending(5, 104)...)
}

// left checks what is left of a base without an owner, and of each of its tables.
func left(t *testing.T, b []api.Table, owner int, want ...api.Table) {
	t.Helper()
	unchanged(t, b, func() {
		if got := table.WithoutOf(b, owner); !equalBases(got, want) {
			t.Errorf("%s without %d: %s", briefBase(b), owner, briefBase(got))
		}
		for i, x := range b {
			if got := table.Without(x, owner); !equal(got, want[i]) {
				t.Errorf("%s without %d: %s", brief(x), owner, brief(got))
			}
		}
	})
}

func TestWithout(t *testing.T) { // P12.3
	s := people()
	x := of(s, "1: 30 0; 2: 31 1; 1: 32 0")
	left(t, base(x), 1, of(s, "2: 31 1"))
	left(t, base(x), 2, of(s, "1: 30 0; 1: 32 0"))
	for _, owner := range []int{math.MinInt, -1, 0, 3, 12, 1000000, math.MaxInt} {
		left(t, base(x), owner, x)
	}
	left(t, base(of(s, "4: 1 1")), 4, of(s, ""))
	left(t, base(of(s, "4: 1 1; 4: 2 1; 4: 3 1")), 4, of(s, ""))
	left(t, base(of(s, "")), 4, of(s, ""))
	left(t, base(of(s, "3: 9 1; 2: 8 1; 3: 7 1; 1: 6 0; 2: 5 0")), 3, of(s, "2: 8 1; 1: 6 0; 2: 5 0"))
	left(t, base(of(s, "2: 9 1; 3: 8 1; 1: 8 1; 3: 7 1; 3: 6 0; 1: 8 1; 3: 5 0")), 3, of(s, "2: 9 1; 1: 8 1; 1: 8 1"))
}

func TestWithoutOfTablesThatAreNotValid(t *testing.T) { // P12.3
	s := people()
	x := of(s, "0: 1; -1: 5 5 5; 0: 500 3; 3:; -1: 7; 3: 1 1; 3: 1 1; 3: 1 1; 1000001: 0 0")
	left(t, base(x), 0, of(s, "-1: 5 5 5; 3:; -1: 7; 3: 1 1; 3: 1 1; 3: 1 1; 1000001: 0 0"))
	left(t, base(x), -1, of(s, "0: 1; 0: 500 3; 3:; 3: 1 1; 3: 1 1; 3: 1 1; 1000001: 0 0"))
	left(t, base(x), 3, of(s, "0: 1; -1: 5 5 5; 0: 500 3; -1: 7; 1000001: 0 0"))
	left(t, base(x), 1000001, of(s, "0: 1; -1: 5 5 5; 0: 500 3; 3:; -1: 7; 3: 1 1; 3: 1 1; 3: 1 1"))
	left(t, base(repeated(s, math.MinInt, math.MaxInt)), math.MinInt, repeated(s, math.MaxInt))
	left(t, base(api.Table{}), 0, api.Table{})
	left(t, base(repeated(api.Schema{Name: "1", Many: -7}, 1, 2)), 2, repeated(api.Schema{Name: "1", Many: -7}, 1))
	left(t, base(repeated(s, append(ascending(1, 3000), 1, 2)...)), 1, repeated(s, append(ascending(2, 3000), 2)...))
}

func TestWithoutOfPublicTables(t *testing.T) { // P12.3
	x := of(places(), "0: 1 1; 0: 2 1; 0: 1 1")
	for _, owner := range []int{0, 1, -1} {
		left(t, base(x), owner, x)
	}
	x = of(places(), "1: 1 1; 0: 2 1; 1: 1 1")
	for _, owner := range []int{0, 1, -1} {
		left(t, base(x), owner, x)
	}
	left(t, base(repeated(api.Schema{Public: true}, 1, 2)), 2, repeated(api.Schema{Public: true}, 1, 2))
}

func TestWithoutOfBases(t *testing.T) { // P12.3
	left(t, nil, 1)
	left(t, base(), 1)
	x, y, z := of(people(), "1: 1 1; 2: 2 0; 1: 3 1"), of(places(), "0: 5 1; 1: 6 0; 2: 7 1"), of(pets(), "2: 1; 3: 2")
	left(t, base(x, y, z), 1, of(people(), "2: 2 0"), y, z)
	left(t, base(x, y, z), 2, of(people(), "1: 1 1; 1: 3 1"), y, of(pets(), "3: 2"))
	left(t, base(x, y, z), 3, x, y, of(pets(), "2: 1"))
	left(t, base(x, y, z), 0, x, y, z)
	left(t, base(x, y, z), 4, x, y, z)
	left(t, base(z, x, x), 2, of(pets(), "3: 2"), of(people(), "1: 1 1; 1: 3 1"), of(people(), "1: 1 1; 1: 3 1"))
	left(t, base(of(pets(), "2: 0"), of(people(), "2: 2 1; 2: 2 1")), 2, of(pets(), ""), of(people(), ""))
	left(t, make([]api.Table, 20), 0, make([]api.Table, 20)...)
}

func TestOwnersAndWithoutOfAllSmallTables(t *testing.T) { // P12.3
	rows := of(people(), "1: 0 0; 2: 1 1; 0: 2 1; -1: 3 1; 2: 4 1").Rows
	for _, s := range []api.Schema{people(), places()} {
		tables(s, rows, 4, func(x api.Table) {
			owned(t, base(x), plainOwners(base(x))...)
			for owner := -2; owner <= 3; owner++ {
				left(t, base(x), owner, plainWithout(x, owner))
			}
		})
	}
}

func TestOwnersAndWithoutOfAllSmallBases(t *testing.T) { // P12.3
	l := slices.Concat(listed(people(), of(people(), "1: 0 0; 2: 1 1; 1: 2 1").Rows, 2), listed(places(), of(places(), "0: 0 0; 1: 0 0").Rows, 2), listed(pets(), of(pets(), "2: 1; 3: 1").Rows, 1))
	for _, x := range l {
		for _, y := range l {
			b := base(x, y)
			owned(t, b, plainOwners(b)...)
			for owner := range 4 {
				left(t, b, owner, plainWithoutOf(b, owner)...)
			}
		}
	}
}
