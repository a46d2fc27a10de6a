package schema_test

import (
	"math/rand"
	"reflect"
	"slices"
	"testing"

	"privhouse/api"
	"privhouse/schema"
)

func TestTextAndValueAreInverse(t *testing.T) { // P11.7
	for _, c := range append(goodColumns(), columns(16)...) {
		before := deepCopy(of(c)).Columns[0]
		texts := map[string]bool{}
		for v := c.Lo; v <= c.Hi; v++ {
			text := schema.Text(c, v)
			spelled(t, c, v, plainText(c, v))
			meant(t, c, text, v)
			texts[text] = true
		}
		if len(texts) != schema.Width(c) || len(texts) != c.Hi-c.Lo+1 || texts[""] {
			t.Error(c, "has", len(texts), "texts")
		}
		// Of the texts of all columns, those of other ones have no value.
		for _, other := range goodColumns() {
			for v := other.Lo; v <= other.Hi; v++ {
				if text := schema.Text(other, v); !texts[text] {
					unmeant(t, c, text)
				}
			}
		}
		if !reflect.DeepEqual(c, before) {
			t.Error(before, "has become", c)
		}
	}
}

func TestTextAndValueOfTheWidestColumn(t *testing.T) { // P11.7
	c := between("x", -1000000, 1000000)
	for _, middle := range []int{-1000000, -100000, -10000, 0, 10000, 100000, 1000000} {
		for v := middle - 2000; v <= middle+2000; v++ {
			if v < c.Lo || v > c.Hi {
				spelled(t, c, v, "")
				unmeant(t, c, plainText(c, v))
				continue
			}
			spelled(t, c, v, plainText(c, v))
			meant(t, c, plainText(c, v), v)
		}
	}
	for v := c.Lo; v <= c.Hi; v += 997 {
		spelled(t, c, v, plainText(c, v))
		meant(t, c, schema.Text(c, v), v)
	}
}

// selections calls f with each list of some of the columns, without those left out, in each order.
func selections(l []api.Column, f func(chosen []api.Column)) {
	var extend func(chosen, rest []api.Column)
	extend = func(chosen, rest []api.Column) {
		if len(chosen) > 0 {
			f(chosen)
		}
		for i := range rest {
			extend(append(slices.Clone(chosen), rest[i]), slices.Concat(rest[:i], rest[i+1:]))
		}
	}
	extend(nil, l)
}

func TestColumnsLeftOutAndExchanged(t *testing.T) { // P11.8
	for _, l := range [][]api.Column{columns(6), {age(), colour(), words("age1", "age", "colour", "red"), between("red", -1, 1), words("full", numbered("w", 64)...)}} {
		number := 0
		selections(l, func(chosen []api.Column) {
			number++
			expect(t, of(chosen...), checked{api.OK, -1})
			expect(t, api.Schema{Name: "t", Public: true, Columns: chosen}, checked{api.OK, -1})
		})
		if want := map[int]int{5: 325, 6: 1956}[len(l)]; number != want {
			t.Error(number, "selections instead of", want)
		}
	}
	expect(t, of(), checked{api.ErrForm, -1})
}

func TestColumnsOfFullSchemas(t *testing.T) { // P11.8
	l := columns(16)
	for i := range l {
		expect(t, of(slices.Concat(l[:i], l[i+1:])...), checked{api.OK, -1})
		expect(t, of(l[i:]...), checked{api.OK, -1})
		expect(t, of(slices.Concat(l[i:], l[:i])...), checked{api.OK, -1})
		for k := range i {
			other := slices.Clone(l)
			other[i], other[k] = l[k], l[i]
			expect(t, of(other...), checked{api.OK, -1})
			expect(t, of(other[k:i]...), checked{api.OK, -1})
		}
	}
}

// anySchema returns a schema with errors here and there.
func anySchema(r *rand.Rand) api.Schema {
	rarely := func() bool { return r.Intn(60) == 0 }
	s := schemas(6)[r.Intn(6)]
	s.Columns = columns(17)[:1+r.Intn(16)]
	for i := range s.Columns {
		c := &s.Columns[i]
		if rarely() {
			c.Name = s.Columns[r.Intn(len(s.Columns))].Name
		}
		if rarely() {
			c.Name = badNames()[r.Intn(len(badNames()))]
		}
		if rarely() && len(c.Words) > 0 {
			c.Words[r.Intn(len(c.Words))] = c.Words[r.Intn(len(c.Words))]
		}
		if rarely() && len(c.Words) > 0 {
			c.Words[r.Intn(len(c.Words))] = badNames()[r.Intn(len(badNames()))]
		}
		if rarely() {
			c.Words = numbered("w", r.Intn(100))
		}
		if rarely() {
			c.Lo, c.Hi = c.Lo+r.Intn(3)-1, c.Hi+r.Intn(3)-1
		}
	}
	if rarely() {
		s.Many += r.Intn(100) - 50
	}
	if rarely() {
		s.Public = !s.Public
	}
	if rarely() {
		s.Columns = columns(r.Intn(20))
	}
	return s
}

func TestAnySchemas(t *testing.T) { // P11.2, P11.3, P11.6, P11.8
	r := rand.New(rand.NewSource(11))
	accepted := 0
	for range 3000 {
		s := anySchema(r)
		w := wanted(s)
		expect(t, s, w)
		same(t, s, schema.Copy(s), true)
		l := []api.Schema{s, anySchema(r), anySchema(r)}
		expectAll(t, l, wantedAll(l))
		for _, c := range s.Columns {
			if (schema.Width(c) > 0) != (wanted(of(c)).e == api.OK) {
				t.Error(c, schema.Width(c))
			}
		}
		if w.e != api.OK {
			continue
		}
		accepted++
		other := deepCopy(s)
		r.Shuffle(len(other.Columns), func(i, k int) {
			other.Columns[i], other.Columns[k] = other.Columns[k], other.Columns[i]
		})
		other.Columns = other.Columns[r.Intn(len(other.Columns)):]
		expect(t, other, checked{api.OK, -1})
	}
	if accepted < 500 || accepted > 2500 {
		t.Error(accepted, "schemas are accepted, out of 3000")
	}
}
