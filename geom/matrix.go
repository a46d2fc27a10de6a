package geom

// matrix has cells in rows and columns.
type matrix[T any] struct {
	columns int
	cells   []T
}

// newMatrix returns a matrix whose cells have zero values.
func newMatrix[T any](rows, columns int) matrix[T] {
	return matrix[T]{columns, make([]T, rows*columns)}
}

// at returns the cell in a row and a column, both from 0 on.
func (m matrix[T]) at(row, column int) T { return m.cells[row*m.columns+column] }

// set changes the cell in a row and a column.
func (m matrix[T]) set(row, column int, x T) { m.cells[row*m.columns+column] = x }
