package schema_test

import (
	"slices"
	"strings"
	"testing"

	"privhouse/schema"
)

// named checks what Name says of a string.
func named(t *testing.T, s string, want bool) {
	t.Helper()
	if schema.Name(s) != want {
		t.Errorf("%q: %v", s, !want)
	}
}

func TestNameExamples(t *testing.T) { // P11.1
	for _, s := range []string{"a", "z", "a_1", "people", "age", "red", "a0", "a9", "z_", "a__", "fromm", "fro", "rom", "a20", strings.Repeat("a", 20), "a" + strings.Repeat("_", 19), "z" + strings.Repeat("9", 19), "consistently"} {
		named(t, s, true)
	}
	for _, s := range []string{"", "1a", "from", strings.Repeat("a", 21), "_", "_a", "0", "9", "07", "-", "A", "Age", "aGE", "FROM", "a b", "a-b", "a.b", "'a'", "a\n", "\x00", "a\x00", "\x80", "a\xff", "é", "aé", "ａ", strings.Repeat("a", 1000), strings.Repeat("é", 10)} {
		named(t, s, false)
	}
}

func TestNameOfEachLength(t *testing.T) { // P11.1
	for n := range 60 {
		named(t, strings.Repeat("k", n), n >= 1 && n <= 20)
		named(t, strings.Repeat("k_7", n), n >= 1 && n <= 6)
	}
}

func TestNameOfEachByte(t *testing.T) { // P11.1
	for a := range 256 {
		first := string([]byte{byte(a)})
		letter := a >= 'a' && a <= 'z'
		inner := letter || a >= '0' && a <= '9' || a == '_'
		named(t, first, letter)
		for b := range 256 {
			named(t, first+string([]byte{byte(b)}), isName(first+string([]byte{byte(b)})))
		}
		for _, whole := range []string{"kkk", strings.Repeat("q", 20)} {
			for i := range whole {
				named(t, whole[:i]+first+whole[i+1:], letter || inner && i > 0)
			}
		}
	}
}

func TestNameOfReservedWords(t *testing.T) { // P11.1
	if len(reservedWords()) != 35 {
		t.Fatal("the list of the test")
	}
	for _, word := range reservedWords() {
		named(t, word, false)
		named(t, strings.ToUpper(word), false)
		named(t, strings.ToUpper(word[:1])+word[1:], false)
		named(t, word[:len(word)-1]+strings.ToUpper(word[len(word)-1:]), false)
		for _, c := range "abcdefghijklmnopqrstuvwxyz0123456789_ A-\x00\x7f" {
			for i := range len(word) + 1 {
				named(t, word[:i]+string(c)+word[i:], isName(word[:i]+string(c)+word[i:]))
				if i < len(word) {
					named(t, word[:i]+string(c)+word[i+1:], isName(word[:i]+string(c)+word[i+1:]))
				}
			}
		}
		for i := range word {
			named(t, word[:i]+word[i+1:], isName(word[:i]+word[i+1:]))
		}
		for _, other := range reservedWords() {
			named(t, word+other, len(word+other) <= 20)
		}
	}
}

func TestReserved(t *testing.T) { // P11.1
	want := reservedWords()
	list := schema.Reserved()
	if !slices.Equal(list, want) {
		t.Fatal(list)
	}
	other := schema.Reserved()
	for i := range list {
		list[i] = "x"
	}
	if !slices.Equal(other, want) || !slices.Equal(schema.Reserved(), want) {
		t.Error("a change of what Reserved has returned is seen by", other, schema.Reserved())
	}
	_ = append(other[:3], "y")
	_ = append(schema.Reserved(), "y")
	if !slices.Equal(schema.Reserved(), want) {
		t.Error(schema.Reserved())
	}
	for _, word := range want {
		named(t, word, false)
	}
	named(t, "x", true)
}
