package schema

import (
	"sort"
	"strings"
)

// reserved are the reserved words. They are ascending, as isReserved needs them.
var reserved = [...]string{
	"above", "and", "batch", "between", "bits", "by", "consistent", "count", "else", "factor", "from", "histogram",
	"identity", "if", "join", "keep", "late", "limit", "mode", "none", "not", "of", "on", "or", "peak", "prefix",
	"quantile", "running", "sum", "then", "total", "tree", "using", "where", "with",
}

// isReserved reports whether a word is a reserved one.
func isReserved(word string) bool {
	_, found := sort.Find(len(reserved), func(i int) int { return strings.Compare(word, reserved[i]) })
	return found
}

// isLetter reports whether a byte is a small letter.
func isLetter(b byte) bool { return 'a' <= b && b <= 'z' }

// isDigit reports whether a byte is a decimal digit.
func isDigit(b byte) bool { return '0' <= b && b <= '9' }
