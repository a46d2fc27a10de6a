package schema

import "privhouse/api"

// none is the index that comes with what is in no column, or in no table.
const none = -1

// check is one of the checks of a schema.
type check func() api.Errno

// demand returns a check that finds an error unless a condition holds.
func demand(e api.Errno, holds func() bool) check {
	return func() api.Errno {
		if holds() {
			return api.OK
		}
		return e
	}
}

// firstError returns the error of the first check that finds one. The checks after it are not made: they may take long where it has found a list too long.
func firstError(checks []check) api.Errno {
	for _, c := range checks {
		if e := c(); e != api.OK {
			return e
		}
	}
	return api.OK
}

// tableChecks returns the checks of a schema that come before those of its columns.
func tableChecks(s api.Schema) []check {
	least, most := 1, api.MaxMany
	if s.Public {
		least, most = 0, 0
	}
	return []check{
		demand(api.ErrName, func() bool { return Name(s.Name) }),
		demand(api.ErrRange, func() bool { return least <= s.Many && s.Many <= most }),
		demand(api.ErrForm, func() bool { return len(s.Columns) > 0 }),
		demand(api.ErrLong, func() bool { return len(s.Columns) <= api.MaxColumns }),
	}
}

// columnChecks returns the checks of a column; seen are the names of the columns before it.
func columnChecks(c api.Column, seen marks) []check {
	isNew := seen.in("")
	checks := []check{
		demand(api.ErrName, func() bool { return Name(c.Name) }),
		demand(api.ErrDouble, func() bool { return isNew(c.Name) }),
	}
	if len(c.Words) > 0 {
		return append(checks, wordChecks(c, seen)...)
	}
	return append(checks, demand(api.ErrRange, func() bool {
		return -api.MaxValue <= c.Lo && c.Lo <= c.Hi && c.Hi <= api.MaxValue
	}))
}

// wordChecks returns the checks of the words of a column.
func wordChecks(c api.Column, seen marks) []check {
	return []check{
		demand(api.ErrLong, func() bool { return len(c.Words) <= api.MaxDomain }),
		demand(api.ErrName, func() bool { return all(c.Words, Name) }),
		demand(api.ErrDouble, func() bool { return all(c.Words, seen.in(c.Name)) }),
		demand(api.ErrRange, func() bool { return c.Lo == 0 && c.Hi == len(c.Words)-1 }),
	}
}

// all reports whether a condition holds for each word. It stops at the first one for which it does not.
func all(words []string, holds func(string) bool) bool {
	for _, word := range words {
		if !holds(word) {
			return false
		}
	}
	return true
}

// mark says where a word has been seen: in the column of that name, or, if column is empty, as a name of a column or a table.
type mark struct{ column, word string }

// marks are the places where words have been seen.
type marks map[mark]bool

// in returns a function that notes a word in a column, and reports whether it has not been seen there before.
func (m marks) in(column string) func(word string) bool {
	return func(word string) bool {
		place := mark{column, word}
		if m[place] {
			return false
		}
		m[place] = true
		return true
	}
}

// valid reports whether a column is valid.
func valid(c api.Column) bool {
	e, _ := Check(api.Schema{Name: "t", Many: 1, Columns: []api.Column{c}})
	return e == api.OK
}
