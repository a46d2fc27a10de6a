package schema_test

import (
	"math"
	"slices"
	"strconv"
	"strings"
	"testing"

	"privhouse/api"
)

func TestCheckExamples(t *testing.T) { // P11.2
	expect(t, of(age(), colour()), checked{api.OK, -1})
	expect(t, of(), checked{api.ErrForm, -1})
	s := of(age(), colour())
	s.Many = 0
	expect(t, s, checked{api.ErrRange, -1})
	s = of(age(), colour())
	s.Public = true
	expect(t, s, checked{api.ErrRange, -1})
	expect(t, of(age(), colour(), colour()), checked{api.ErrDouble, 2})
	c := colour()
	c.Hi = 2
	expect(t, of(age(), c), checked{api.ErrRange, 1})
	expect(t, of(between("age", 5, 4), colour()), checked{api.ErrRange, 0})
	expect(t, of(age(), words("colour", "red", "red")), checked{api.ErrDouble, 1})
	expect(t, api.Schema{}, checked{api.ErrName, -1})
}

func TestCheckName(t *testing.T) { // P11.2
	for _, name := range badNames() {
		s := of(age(), colour())
		s.Name = name
		expect(t, s, checked{api.ErrName, -1})
		expect(t, of(age(), between(name, 0, 1)), checked{api.ErrName, 1})
		expect(t, of(words(name, "red"), age()), checked{api.ErrName, 0})
		expect(t, of(age(), words("colour", "red", name, "blue")), checked{api.ErrName, 1})
	}
	// A name may be that of the table, of a column and of a word of each column.
	expect(t, of(words("people", "people", "colour", "red"), words("colour", "people", "colour", "red"), between("red", 0, 1)), checked{api.OK, -1})
}

func TestCheckMany(t *testing.T) { // P11.2
	for _, many := range []int{math.MinInt, -50, -1, 0, 1, 2, 49, 50, 51, 100, math.MaxInt} {
		want := checked{api.OK, -1}
		if many < 1 || many > 50 {
			want.e = api.ErrRange
		}
		expect(t, api.Schema{Name: "t", Many: many, Columns: columns(2)}, want)
		want.e = api.OK
		if many != 0 {
			want.e = api.ErrRange
		}
		expect(t, api.Schema{Name: "t", Public: true, Many: many, Columns: columns(2)}, want)
	}
}

func TestCheckNumberOfColumns(t *testing.T) { // P11.2
	expect(t, api.Schema{Name: "t", Many: 1, Columns: []api.Column{}}, checked{api.ErrForm, -1})
	for n := range 40 {
		want := checked{api.OK, -1}
		switch {
		case n == 0:
			want.e = api.ErrForm
		case n > 16:
			want.e = api.ErrLong
		}
		expect(t, of(columns(n)...), want)
		expect(t, api.Schema{Name: "t", Public: true, Columns: columns(n)}, want)
	}
	expect(t, of(make([]api.Column, 100000)...), checked{api.ErrLong, -1})
}

func TestCheckRange(t *testing.T) { // P11.2
	ends := []int{math.MinInt, math.MinInt + 1, -1000002, -1000001, -1000000, -999999, -1, 0, 1, 999999, 1000000, 1000001, 1000002, math.MaxInt - 1, math.MaxInt}
	for _, lo := range ends {
		for _, hi := range ends {
			want := checked{api.OK, -1}
			if lo < -1000000 || hi > 1000000 || lo > hi {
				want = checked{api.ErrRange, 1}
			}
			expect(t, of(colour(), between("x", lo, hi)), want)
			expect(t, of(colour(), api.Column{Name: "x", Lo: lo, Hi: hi, Words: []string{}}), want)
			want = checked{api.ErrRange, 1}
			if lo == 0 && hi == 1 {
				want = checked{api.OK, -1}
			}
			expect(t, of(age(), api.Column{Name: "x", Lo: lo, Hi: hi, Words: []string{"a", "b"}}), want)
		}
	}
	for x := -3; x <= 3; x++ {
		expect(t, of(between("x", x, x)), checked{api.OK, -1})
		expect(t, of(between("x", x, x+1)), checked{api.OK, -1})
		expect(t, of(between("x", x+1, x)), checked{api.ErrRange, 0})
	}
}

func TestCheckNumberOfWords(t *testing.T) { // P11.2
	for n := 1; n <= 130; n++ {
		want := checked{api.OK, -1}
		if n > 64 {
			want = checked{api.ErrLong, 1}
		}
		expect(t, of(age(), words("x", numbered("w", n)...)), want)
	}
	expect(t, of(words("x", make([]string, 100000)...)), checked{api.ErrLong, 0})
	for lo := -2; lo <= 2; lo++ {
		for hi := -1; hi <= 66; hi++ {
			for _, n := range []int{1, 2, 63, 64} {
				want := checked{api.OK, -1}
				if lo != 0 || hi != n-1 {
					want = checked{api.ErrRange, 0}
				}
				expect(t, of(api.Column{Name: "x", Lo: lo, Hi: hi, Words: numbered("w", n)}), want)
			}
		}
	}
}

func TestCheckDoubleColumn(t *testing.T) { // P11.2
	for i := range 16 {
		for k := range i {
			l := columns(16)
			l[i].Name = l[k].Name
			expect(t, of(l...), checked{api.ErrDouble, i})
			expect(t, of(l[:i+1]...), checked{api.ErrDouble, i})
			expect(t, of(l[:i]...), checked{api.OK, -1})
		}
	}
	l := columns(9)
	l[3].Name, l[7].Name, l[8].Name = "c1", "c1", "c0"
	expect(t, of(l...), checked{api.ErrDouble, 3})
	// Names are the same only if all their bytes are.
	expect(t, of(between("a", 0, 1), between("aa", 0, 1), between("a_", 0, 1), between("aaa", 0, 1)), checked{api.OK, -1})
}

func TestCheckDoubleWord(t *testing.T) { // P11.2
	for i := range 64 {
		for k := range i {
			l := numbered("w", 64)
			l[i] = l[k]
			expect(t, of(age(), words("x", l...)), checked{api.ErrDouble, 1})
		}
	}
	// Other columns, tables and the column's own name count for nothing.
	expect(t, of(words("x", "a", "b"), words("y", "a", "b"), words("z", "z", "x", "y", "a")), checked{api.OK, -1})
	expect(t, of(words("x", "a", "aa"), words("a", "x", "aa")), checked{api.OK, -1})
}

// change is something that gives a schema an error. The parts that it changes are written like the paths of files.
type change struct {
	want  checked
	parts []string
	make  func(s *api.Schema)
}

// apart reports whether two changes can be made beside each other: no part of one contains a part of the other.
func apart(a, b change) bool {
	for _, x := range a.parts {
		for _, y := range b.parts {
			if strings.HasPrefix(x+"/", y+"/") || strings.HasPrefix(y+"/", x+"/") {
				return false
			}
		}
	}
	return true
}

// tableChanges are the changes that lead to an error of a table, in the order of these errors.
func tableChanges() []change {
	var l []change
	add := func(e api.Errno, make func(s *api.Schema), parts ...string) {
		l = append(l, change{checked{e, -1}, parts, make})
	}
	for _, name := range []string{"", "sum", "1"} {
		add(api.ErrName, func(s *api.Schema) { s.Name = name }, "name")
	}
	for _, many := range []int{-1, 0, 51} {
		add(api.ErrRange, func(s *api.Schema) { s.Public, s.Many = false, many }, "many")
	}
	for _, many := range []int{-1, 1, 50} {
		add(api.ErrRange, func(s *api.Schema) { s.Public, s.Many = true, many }, "many")
	}
	add(api.ErrForm, func(s *api.Schema) { s.Columns = nil }, "columns", "number")
	add(api.ErrLong, func(s *api.Schema) { s.Columns = append(s.Columns, columns(14)...) }, "number")
	return l
}

// columnChanges are the changes that lead to an error of a column with three words, in the order of these errors.
func columnChanges(i int) []change {
	var l []change
	add := func(e api.Errno, make func(s *api.Schema, c *api.Column), parts ...string) {
		for k := range parts {
			parts[k] = "columns/" + strconv.Itoa(i) + "/" + parts[k]
		}
		l = append(l, change{checked{e, i}, parts, func(s *api.Schema) { make(s, &s.Columns[i]) }})
	}
	add(api.ErrName, func(_ *api.Schema, c *api.Column) { c.Name = "9" }, "name")
	add(api.ErrName, func(_ *api.Schema, c *api.Column) { c.Name = "late" }, "name")
	for k := range i {
		add(api.ErrDouble, func(s *api.Schema, c *api.Column) { c.Name = s.Columns[k].Name }, "name")
	}
	add(api.ErrLong, func(_ *api.Schema, c *api.Column) { c.Words, c.Hi = append(c.Words, numbered("v", 62)...), 64 }, "words/number")
	add(api.ErrName, func(_ *api.Schema, c *api.Column) { c.Words[2] = "none" }, "words/2")
	add(api.ErrName, func(_ *api.Schema, c *api.Column) { c.Words[len(c.Words)-1] = "" }, "words/2")
	add(api.ErrName, func(_ *api.Schema, c *api.Column) { c.Words[0], c.Words[1] = "A", "A" }, "words/0")
	add(api.ErrDouble, func(_ *api.Schema, c *api.Column) { c.Words[1] = c.Words[0] }, "words/0")
	add(api.ErrRange, func(_ *api.Schema, c *api.Column) { c.Lo-- }, "ends")
	add(api.ErrRange, func(_ *api.Schema, c *api.Column) { c.Hi++ }, "ends")
	for _, x := range [][2]int{{-1000001, 0}, {0, 1000001}, {1, 0}} {
		add(api.ErrRange, func(_ *api.Schema, c *api.Column) { c.Words, c.Lo, c.Hi = nil, x[0], x[1] }, "words", "ends")
	}
	return l
}

// three is a valid schema to be changed.
func three() api.Schema {
	return of(words("x", "a", "b", "c"), words("y", "a", "b", "c"), words("z", "a", "b", "c"))
}

func TestCheckOrder(t *testing.T) { // P11.2
	expect(t, three(), checked{api.OK, -1})
	l := slices.Concat(tableChanges(), columnChanges(0), columnChanges(1), columnChanges(2))
	pairs := 0
	for i, a := range l {
		s := three()
		a.make(&s)
		expect(t, s, a.want)
		for k, b := range l[i+1:] {
			if !apart(a, b) {
				continue
			}
			pairs++
			s := three()
			a.make(&s)
			b.make(&s)
			expect(t, s, a.want)
			for _, c := range l[i+1:][k+1:] {
				if apart(a, c) && apart(b, c) {
					s := three()
					a.make(&s)
					b.make(&s)
					c.make(&s)
					expect(t, s, a.want)
				}
			}
		}
	}
	if pairs < 600 {
		t.Error("only", pairs, "pairs of errors")
	}
}

func TestCheckOrderByList(t *testing.T) { // P11.2
	bad := badColumns()
	for i, a := range bad {
		expect(t, of(a), wanted(of(a)))
		for _, c := range goodColumns() {
			expect(t, of(c, a), wanted(of(c, a)))
			expect(t, of(a, c), wanted(of(a, c)))
		}
		for _, b := range bad[:i+1] {
			for _, l := range [][]api.Column{{a, b}, {b, a}} {
				s := of(l...)
				if wanted(s).e == api.OK {
					t.Error("two bad columns are accepted by the test's own check")
				}
				expect(t, s, wanted(s))
				s.Name = "limit"
				expect(t, s, checked{api.ErrName, -1})
				s.Name, s.Many = "t", 0
				expect(t, s, checked{api.ErrRange, -1})
			}
		}
	}
}
