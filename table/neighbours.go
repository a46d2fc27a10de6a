package table

import (
	"slices"

	"privhouse/api"
)

// neighbours returns the owner by which two tables, or two bases, differ. surplus returns the owner without whom the first of two is the second one.
func neighbours[T any](a, b T, surplus func(more, less T) (owner int, ok bool)) (owner int, ok bool) {
	if owner, ok := surplus(a, b); ok {
		return owner, true
	}
	return surplus(b, a)
}

// surplus returns the owner without whom a base is another one.
func surplus(more, less []api.Table) (owner int, ok bool) {
	suspect, found := firstMissing(more, less)
	if found && slices.EqualFunc(WithoutOf(more, suspect), less, Same) {
		return suspect, true
	}
	return 0, false
}

// firstMissing returns the owner of the first row of a base that another one has not in its place. Nobody else can be the owner without whom the base is the other one: it has the same rows as far as this owner has none, and then a row of somebody else or no more rows.
func firstMissing(more, less []api.Table) (owner int, found bool) {
	for i := range min(len(more), len(less)) {
		others := less[i].Rows
		for k, r := range more[i].Rows {
			if k >= len(others) || !sameRow(r, others[k]) {
				return r.Owner, true
			}
		}
	}
	return 0, false
}
