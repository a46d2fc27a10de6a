package table

import (
	"iter"
	"slices"

	"privhouse/api"
)

// none is the index that comes with what is in no row, or in no table.
const none = -1

// checkRow returns the error of a row. The schema is one that schema.Check accepts; number is how many rows the owner has, up to this one.
func checkRow(s api.Schema, r api.Row, number int) api.Errno {
	switch {
	case len(r.Values) != len(s.Columns):
		return api.ErrForm
	case !mayOwn(s, r.Owner) || !allFit(s.Columns, r.Values):
		return api.ErrRange
	case !s.Public && number > s.Many:
		return api.ErrFull
	}
	return api.OK
}

// mayOwn reports whether a row of a table may have an owner.
func mayOwn(s api.Schema, owner int) bool {
	if s.Public {
		return owner == 0
	}
	return 1 <= owner && owner <= api.MaxOwner
}

// allFit reports whether each value is one of its column. It does not ask Clamp, which would check the column once more for each row.
func allFit(columns []api.Column, values []int) bool {
	for i, c := range columns {
		if values[i] < c.Lo || values[i] > c.Hi {
			return false
		}
	}
	return true
}

// rowsWithout enumerates the rows that a table has without an owner.
func rowsWithout(t api.Table, owner int) iter.Seq[api.Row] {
	return func(yield func(api.Row) bool) {
		for _, r := range t.Rows {
			stays := t.Schema.Public || r.Owner != owner
			if stays && !yield(r) {
				return
			}
		}
	}
}

// copyRow returns a copy of a row that shares no memory with it.
func copyRow(r api.Row) api.Row { return api.Row{Owner: r.Owner, Values: slices.Clone(r.Values)} }

// sameRow reports whether two rows are equal.
func sameRow(a, b api.Row) bool { return a.Owner == b.Owner && slices.Equal(a.Values, b.Values) }
