package schema_test

import (
	"math"
	"reflect"
	"slices"
	"strings"
	"testing"

	"privhouse/api"
	"privhouse/schema"
)

// same checks what Same says of two schemas, in either order.
func same(t *testing.T, a, b api.Schema, want bool) {
	t.Helper()
	if schema.Same(a, b) != want || schema.Same(b, a) != want {
		t.Errorf("%+v and %+v are not said to be the same: %v", a, b, !want)
	}
}

// samples are schemas of all sorts, valid and not. No two of them are equal.
func samples() []api.Schema {
	l := []api.Schema{{}, of(), of(age()), of(colour()), of(age(), colour()), of(colour(), age()), of(age(), age()), of(columns(16)...), of(columns(40)...), {Name: "a\x80", Many: math.MinInt, Columns: badColumns()}, {Name: "t", Public: true, Columns: columns(3)}, {Name: "t", Public: true, Many: 1, Columns: columns(3)}}
	l = append(l, schemas(5)...)
	return l
}

func TestCopyIsEqual(t *testing.T) { // P11.6
	for _, s := range samples() {
		before := deepCopy(s)
		c := schema.Copy(s)
		same(t, s, c, true)
		if !reflect.DeepEqual(s, before) || len(c.Columns) != len(s.Columns) {
			t.Errorf("%+v: %+v, %+v", before, s, c)
		}
		for i, column := range c.Columns {
			if !reflect.DeepEqual(column, s.Columns[i]) {
				t.Errorf("%+v is copied as %+v", s.Columns[i], column)
			}
		}
	}
}

func TestCopyOfEmptyLists(t *testing.T) { // P11.6
	for _, list := range [][]api.Column{nil, {}, make([]api.Column, 0, 5)} {
		s := api.Schema{Name: "t", Many: 1, Columns: list}
		c := schema.Copy(s)
		same(t, s, c, true)
		grow(&c)
		if cap(list) > 0 && list[:1][0].Name != "" {
			t.Error("a copy shares the memory behind an empty list of columns")
		}
	}
	for _, list := range [][]string{nil, {}, make([]string, 0, 5)} {
		s := of(api.Column{Name: "x", Lo: 1, Hi: 3, Words: list})
		c := schema.Copy(s)
		same(t, s, c, true)
		grow(&c)
		if cap(list) > 0 && list[:1][0] != "" {
			t.Error("a copy shares the memory behind an empty list of words")
		}
	}
}

// spoil changes all that a schema's slices hold, grow what is behind their ends.
func spoil(s *api.Schema) {
	for i := range s.Columns {
		c := &s.Columns[i]
		for k := range c.Words {
			c.Words[k] = "spoilt"
		}
		c.Name, c.Lo, c.Hi, c.Words = "spoilt", c.Lo+100, c.Hi+200, nil
	}
	s.Name, s.Public, s.Many, s.Columns = "spoilt", !s.Public, s.Many+1, nil
}

func grow(s *api.Schema) {
	for i := range s.Columns {
		_ = append(s.Columns[i].Words, "grown", "grown")
	}
	_ = append(s.Columns, between("grown", 0, 1), between("grown", 0, 1))
}

func TestCopySharesNothing(t *testing.T) { // P11.6
	for _, change := range []func(s *api.Schema){spoil, grow} {
		for _, s := range samples() {
			before := deepCopy(s)
			c := schema.Copy(s)
			change(&c)
			if !reflect.DeepEqual(s, before) {
				t.Errorf("a change of the copy turns %+v into %+v", before, s)
			}
			c = schema.Copy(s)
			change(&s)
			same(t, c, before, true)
		}
	}
}

func TestCopySharesNothingBetweenColumns(t *testing.T) { // P11.6
	list := []string{"red", "green", "blue", "white"}
	// The lists of all columns are in one array; each may grow into the next one.
	s := of(api.Column{Name: "a", Hi: 1, Words: list[:2]}, api.Column{Name: "b", Hi: 3, Words: list}, api.Column{Name: "c", Hi: 1, Words: list[2:]})
	before := deepCopy(s)
	c := schema.Copy(s)
	grow(&c)
	same(t, c, before, true)
	for i := range c.Columns {
		c.Columns[i].Words[0] = "spoilt"
		for k := range c.Columns {
			if k != i && slices.Contains(c.Columns[k].Words, "spoilt") {
				t.Error("the columns", i, k, "of a copy share memory")
			}
		}
		c.Columns[i].Words[0] = before.Columns[i].Words[0]
	}
	if !reflect.DeepEqual(s, before) {
		t.Error(s)
	}
}

func TestSame(t *testing.T) { // P11.6
	for i, a := range samples() {
		for k, b := range samples() {
			same(t, a, b, i == k)
		}
	}
	same(t, of(age()), of(age(), colour()), false)
}

func TestSameWithEmptyLists(t *testing.T) { // P11.6
	same(t, api.Schema{Name: "t"}, api.Schema{Name: "t", Columns: []api.Column{}}, true)
	same(t, of(age()), of(api.Column{Name: "age", Hi: 120, Words: []string{}}), true)
	same(t, of(age()), of(api.Column{Name: "age", Hi: 120, Words: make([]string, 0, 3)}), true)
	same(t, of(age()), of(api.Column{Name: "age", Hi: 120, Words: []string{""}}), false)
	same(t, api.Schema{}, of(api.Column{}), false)
	same(t, api.Schema{}, api.Schema{Columns: make([]api.Column, 1)}, false)
}

// others returns schemas that differ from one in a single element.
func others(s api.Schema) []api.Schema {
	var l []api.Schema
	add := func(change func(s *api.Schema)) {
		other := deepCopy(s)
		change(&other)
		l = append(l, other)
	}
	add(func(s *api.Schema) { s.Name += "s" })
	add(func(s *api.Schema) { s.Name = strings.ToUpper(s.Name) })
	add(func(s *api.Schema) { s.Name = "" })
	add(func(s *api.Schema) { s.Public = !s.Public })
	add(func(s *api.Schema) { s.Many++ })
	add(func(s *api.Schema) { s.Many = -s.Many })
	add(func(s *api.Schema) { s.Columns = s.Columns[1:] })
	add(func(s *api.Schema) { s.Columns = nil })
	add(func(s *api.Schema) { s.Columns = s.Columns[:len(s.Columns)-1] })
	add(func(s *api.Schema) { s.Columns = append(s.Columns, api.Column{}) })
	add(func(s *api.Schema) { s.Columns = append(s.Columns, s.Columns[0]) })
	add(func(s *api.Schema) { slices.Reverse(s.Columns) })
	for i, c := range s.Columns {
		column := func(change func(c *api.Column)) { add(func(s *api.Schema) { change(&s.Columns[i]) }) }
		column(func(c *api.Column) { c.Name += "_" })
		column(func(c *api.Column) { c.Name = c.Name[1:] })
		column(func(c *api.Column) { c.Lo++ })
		column(func(c *api.Column) { c.Lo-- })
		column(func(c *api.Column) { c.Hi++ })
		column(func(c *api.Column) { c.Hi-- })
		column(func(c *api.Column) { c.Words = append(c.Words, "") })
		column(func(c *api.Column) { c.Words = append(c.Words, "more") })
		if len(c.Words) > 1 {
			column(func(c *api.Column) { slices.Reverse(c.Words) })
			column(func(c *api.Column) { c.Words = nil })
			column(func(c *api.Column) { c.Words = c.Words[1:] })
			column(func(c *api.Column) { c.Words = c.Words[:len(c.Words)-1] })
		}
		for k := range c.Words {
			column(func(c *api.Column) { c.Words[k] += "s" })
			column(func(c *api.Column) { c.Words[k] = "" })
		}
	}
	return l
}

func TestSameWithOneDifference(t *testing.T) { // P11.6
	for _, s := range []api.Schema{of(age(), colour(), words("size", "small", "big", "huge")), of(colour(), words("x", "a", "b"), age())} {
		l := others(s)
		for _, other := range l {
			same(t, s, other, false)
			same(t, other, other, true)
			same(t, other, deepCopy(other), true)
			same(t, other, schema.Copy(other), true)
		}
	}
}
