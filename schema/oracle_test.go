package schema_test

import (
	"math"
	"reflect"
	"slices"
	"strconv"
	"strings"
	"testing"

	"privhouse/api"
	"privhouse/schema"
)

// reservedText are the reserved words as the chapter lists them.
const reservedText = "above, and, batch, between, bits, by, consistent, count, else, factor, from, histogram, identity, if, join, keep, late, limit, mode, none, not, of, on, or, peak, prefix, quantile, running, sum, then, total, tree, using, where, with"

func reservedWords() []string { return strings.Split(reservedText, ", ") }

// isName says what a name is, as the chapter does.
func isName(s string) bool {
	const letters, others = "abcdefghijklmnopqrstuvwxyz", "0123456789_"
	if len(s) < 1 || len(s) > 20 || strings.IndexByte(letters, s[0]) < 0 {
		return false
	}
	for i := 1; i < len(s); i++ {
		if strings.IndexByte(letters+others, s[i]) < 0 {
			return false
		}
	}
	return !slices.Contains(reservedWords(), s)
}

// checked is what Check returns, checkedAll what CheckAll returns.
type checked struct {
	e      api.Errno
	column int
}

type checkedAll struct {
	e             api.Errno
	table, column int
}

// faults lists the errors of a schema, in the chapter's order. It compares all pairs where the program looks words up.
func faults(s api.Schema) []checked {
	var l []checked
	note := func(applies bool, e api.Errno, column int) {
		if applies {
			l = append(l, checked{e, column})
		}
	}
	note(!isName(s.Name), api.ErrName, -1)
	note(s.Public && s.Many != 0, api.ErrRange, -1)
	note(!s.Public && s.Many < 1, api.ErrRange, -1)
	note(!s.Public && s.Many > 50, api.ErrRange, -1)
	note(len(s.Columns) == 0, api.ErrForm, -1)
	note(len(s.Columns) > 16, api.ErrLong, -1)
	for i, c := range s.Columns {
		note(!isName(c.Name), api.ErrName, i)
		for _, earlier := range s.Columns[:i] {
			note(earlier.Name == c.Name, api.ErrDouble, i)
		}
		if len(c.Words) == 0 {
			note(c.Lo < -1000000 || c.Hi > 1000000 || c.Lo > c.Hi, api.ErrRange, i)
			continue
		}
		note(len(c.Words) > 64, api.ErrLong, i)
		for _, word := range c.Words {
			note(!isName(word), api.ErrName, i)
		}
		for k, word := range c.Words {
			note(slices.Contains(c.Words[:k], word), api.ErrDouble, i)
		}
		note(c.Lo != 0 || c.Hi != len(c.Words)-1, api.ErrRange, i)
	}
	return l
}

// wanted is the first error of a schema, wantedAll that of several ones.
func wanted(s api.Schema) checked {
	return append(faults(s), checked{api.OK, -1})[0]
}

func wantedAll(l []api.Schema) checkedAll {
	if len(l) > 16 {
		return checkedAll{api.ErrLong, 16, -1}
	}
	for i, s := range l {
		if w := wanted(s); w.e != api.OK {
			return checkedAll{w.e, i, w.column}
		}
		for _, earlier := range l[:i] {
			if earlier.Name == s.Name {
				return checkedAll{api.ErrDouble, i, -1}
			}
		}
	}
	return checkedAll{api.OK, -1, -1}
}

// expect checks what Check says of a schema, expectAll what CheckAll says of several ones. Arguments stay as they are.
func expect(t *testing.T, s api.Schema, want checked) {
	t.Helper()
	before := deepCopy(s)
	e, column := schema.Check(s)
	if got := (checked{e, column}); got != want {
		t.Errorf("%+v: %v instead of %v", s, got, want)
	}
	if !reflect.DeepEqual(s, before) {
		t.Errorf("%+v has become %+v", before, s)
	}
}

func expectAll(t *testing.T, l []api.Schema, want checkedAll) {
	t.Helper()
	before := deepCopies(l)
	e, table, column := schema.CheckAll(l)
	if got := (checkedAll{e, table, column}); got != want {
		t.Errorf("%+v: %v instead of %v", l, got, want)
	}
	if !reflect.DeepEqual(l, before) {
		t.Errorf("%+v has become %+v", before, l)
	}
}

// deepCopy and deepCopies copy schemas with all that they contain.
func deepCopy(s api.Schema) api.Schema {
	s.Columns = slices.Clone(s.Columns)
	for i := range s.Columns {
		s.Columns[i].Words = slices.Clone(s.Columns[i].Words)
	}
	return s
}

func deepCopies(l []api.Schema) []api.Schema {
	l = slices.Clone(l)
	for i := range l {
		l[i] = deepCopy(l[i])
	}
	return l
}

// of returns a schema with columns, between a column of integers, words one of words.
func of(columns ...api.Column) api.Schema {
	return api.Schema{Name: "people", Many: 3, Columns: columns}
}

func between(name string, lo, hi int) api.Column {
	return api.Column{Name: name, Lo: lo, Hi: hi}
}

func words(name string, list ...string) api.Column {
	return api.Column{Name: name, Hi: len(list) - 1, Words: list}
}

// The column age and the column colour of the chapter's examples.
func age() api.Column    { return between("age", 0, 120) }
func colour() api.Column { return words("colour", "red", "green") }

// numbered returns n names: a letter or more, and a number.
func numbered(prefix string, n int) []string {
	var l []string
	for i := range n {
		l = append(l, prefix+strconv.Itoa(i))
	}
	return l
}

// columns returns n columns, schemas n schemas, all of which are valid and have different names.
func columns(n int) []api.Column {
	var l []api.Column
	for i, name := range numbered("c", n) {
		if i%2 == 0 {
			l = append(l, between(name, -i, i))
		} else {
			l = append(l, words(name, numbered("w", i)...))
		}
	}
	return l
}

func schemas(n int) []api.Schema {
	var l []api.Schema
	for i, name := range numbered("t", n) {
		s := api.Schema{Name: name, Public: i%2 == 1, Columns: columns(1 + i%3)}
		if !s.Public {
			s.Many = 1 + i
		}
		l = append(l, s)
	}
	return l
}

// badNames are strings that are no names.
func badNames() []string {
	return []string{"", "1a", "_a", "A", "aB", "a-b", "a b", " a", "a ", "é", "a\x80", "a\x00", "from", "none", "with", "above", strings.Repeat("a", 21)}
}

// badColumns are columns of which each is in one way, or in more, not valid.
func badColumns() []api.Column {
	var l []api.Column
	for _, name := range badNames() {
		l = append(l, between(name, 0, 9), words(name, "red", "green"), words("colour", "red", name), words("colour", name, "red"))
	}
	least, most := math.MinInt, math.MaxInt
	for _, x := range [][2]int{{5, 4}, {1, 0}, {0, -1}, {-1000001, 5}, {-1000001, -1000001}, {5, 1000001}, {1000001, 1000001}, {1000001, 1000000}, {-1000000, -1000001}, {least, 0}, {0, most}, {least, most}, {most, least}, {least, least}, {most, most}} {
		l = append(l, between("age", x[0], x[1]))
	}
	for _, x := range [][2]int{{1, 1}, {-1, 1}, {0, 0}, {0, 2}, {0, -1}, {1, 2}, {-1, 0}, {1, 0}, {least, 1}, {0, most}, {least, most}, {0, least}} {
		c := colour()
		c.Lo, c.Hi = x[0], x[1]
		l = append(l, c)
	}
	return append(l, words("colour", "red", "red"), words("colour", "red", "green", "red"), words("colour", "red", "green", "blue", "green"), words("colour", numbered("w", 65)...), words("colour", append(numbered("w", 63), "w0")...), words("colour", numbered("w", 1000)...), api.Column{}, words("colour", ""), words("", ""))
}

// goodColumns are valid columns of both kinds.
func goodColumns() []api.Column {
	return []api.Column{
		age(), colour(), between("a", 0, 0), between("a_1", 7, 7), between("a", -1, -1), between("b", -12, 13), between("t", -120, -99), between("x", 1000, 1099),
		between("top", 999990, 1000000), between("low", -1000000, -999990), between("top", 1000000, 1000000), between("low", -1000000, -1000000),
		words("one", "w"), words("w", "w"), words("nine", numbered("w", 9)...), words("full", numbered("w", 64)...), words("back", "z", "y", "a", "m"), words("near", "or1", "orr", "o", "non", "nones", "a_"), {Name: "empty", Lo: 3, Hi: 5, Words: []string{}},
		words(strings.Repeat("z", 20), strings.Repeat("a", 20), strings.Repeat("a", 19), "a1", "a_"),
	}
}
