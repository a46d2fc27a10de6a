package schema_test

import (
	"math"
	"reflect"
	"strings"
	"testing"

	"privhouse/api"
	"privhouse/schema"
)

// wide checks what Width says of a column.
func wide(t *testing.T, c api.Column, want int) {
	t.Helper()
	if got := schema.Width(c); got != want {
		t.Errorf("%+v: width %d instead of %d", c, got, want)
	}
}

// spelled checks the text of a value.
func spelled(t *testing.T, c api.Column, v int, want string) {
	t.Helper()
	if got := schema.Text(c, v); got != want {
		t.Errorf("%+v: %d is %q instead of %q", c, v, got, want)
	}
}

// meant checks the value of a text, unmeant that there is none.
func meant(t *testing.T, c api.Column, s string, want int) {
	t.Helper()
	if v, found := schema.Value(c, s); v != want || !found {
		t.Errorf("%+v: %q is %d, %v instead of %d", c, s, v, found, want)
	}
}

func unmeant(t *testing.T, c api.Column, s string) {
	t.Helper()
	if v, found := schema.Value(c, s); v != 0 || found {
		t.Errorf("%+v: %q is %d, %v", c, s, v, found)
	}
}

func TestColumnExamples(t *testing.T) { // P11.5
	wide(t, age(), 121)
	wide(t, colour(), 2)
	spelled(t, age(), 7, "7")
	spelled(t, colour(), 1, "green")
	spelled(t, colour(), 2, "")
	meant(t, colour(), "green", 1)
	unmeant(t, age(), "07")
	spelled(t, between("x", -5, 5), -5, "-5")
	spelled(t, between("x", -5, 5), 0, "0")
	meant(t, between("x", -5, 5), "-5", -5)
}

func TestWidth(t *testing.T) { // P11.5
	for n := 1; n <= 64; n++ {
		wide(t, words("x", numbered("w", n)...), n)
	}
	for lo := -5; lo <= 5; lo++ {
		for hi := -5; hi <= 5; hi++ {
			wide(t, between("x", lo, hi), max(hi-lo+1, 0))
		}
	}
	wide(t, between("x", -1000000, 1000000), 2000001)
	wide(t, between("x", -1000000, -1000000), 1)
	wide(t, between("x", 1000000, 1000000), 1)
	wide(t, between("x", -1000000, 999999), 2000000)
	for _, c := range goodColumns() {
		if len(c.Words) > 0 {
			wide(t, c, len(c.Words))
		} else {
			wide(t, c, c.Hi-c.Lo+1)
		}
	}
}

func TestColumnsThatAreNotValid(t *testing.T) { // P11.5
	for _, c := range badColumns() {
		before := deepCopy(of(c)).Columns[0]
		wide(t, c, 0)
		for _, v := range []int{math.MinInt, -1000001, -1000000, -1, 0, 1, 2, 3, 4, 5, 6, 7, 8, 9, 63, 64, 1000000, 1000001, math.MaxInt, c.Lo, c.Hi, c.Lo + 1, c.Hi - 1} {
			spelled(t, c, v, "")
		}
		for _, s := range append([]string{"", "0", "1", "2", "5", "-1", "-1000001", "1000001", "red", "green", "none", "w0", "w64", c.Name}, c.Words...) {
			unmeant(t, c, s)
		}
		if !reflect.DeepEqual(c, before) {
			t.Error(before, "has become", c)
		}
	}
}

func TestTextOutside(t *testing.T) { // P11.5
	for _, c := range goodColumns() {
		for _, v := range []int{math.MinInt, math.MinInt + 1, math.MinInt32, c.Lo - 1000000, c.Lo - 64, c.Lo - 2, c.Lo - 1, c.Hi + 1, c.Hi + 2, c.Hi + 64, c.Hi + 1000000, math.MaxInt32, math.MaxInt - 1, math.MaxInt} {
			spelled(t, c, v, "")
		}
	}
	// What is beyond Lo and Hi alone is no value, also if a word or a number of the other kind would be one.
	spelled(t, colour(), -1, "")
	spelled(t, age(), -1, "")
	spelled(t, age(), 121, "")
}

func TestValueOfOtherTexts(t *testing.T) { // P11.5
	many := strings.Repeat("0", 100)
	others := []string{
		"", "-", "+", "--1", "-0", "+0", "+1", "-+1", "00", "07", "-07", "01", "0x1", "0b1", "1_0", "1e1", "1.0", "1.", ".1", "1/1", "1,0", "1 ", " 1", " ", "1\n", "\t1", "1\x00", "\x00", "1a", "b1", "7-", "1-", "１", "٣", "−1", "\xff", "Red", "RED", "red ", " red", "re", "redd", "'red'", "none", "late", "nan", "inf", "true",
		"2147483648", "4294967296", "4294967297", "9223372036854775807", "9223372036854775808", "-9223372036854775808", "-9223372036854775809", "18446744073709551616", "18446744073709551617", "18446744073709551623", "-18446744073709551615", "340282366920938463463374607431768211457", "1" + many, "-1" + many, many, many + "1", strings.Repeat("9", 10000), "1000001", "-1000001",
	}
	for _, c := range goodColumns() {
		for _, s := range others {
			unmeant(t, c, s)
		}
	}
	for _, s := range []string{"0", "1", "-1", "2", "red0", "0red"} {
		unmeant(t, colour(), s)
	}
	for _, s := range []string{"red", "green", "age", "-1", "121", "122", "1000", "a", "x"} {
		unmeant(t, age(), s)
	}
	unmeant(t, colour(), "colour")
	unmeant(t, colour(), "blue")
}

func TestValueOfEachText(t *testing.T) { // P11.5, P11.7
	const bytes = "-+0123479 awx_"
	texts := []string{""}
	for i := 0; len(texts[i]) < 4; i++ {
		for k := range bytes {
			texts = append(texts, texts[i]+bytes[k:k+1])
		}
	}
	for _, c := range []api.Column{between("x", -120, 130), between("x", 1, 9), between("x", -9, -1), between("x", -12, 0), between("x", 97, 1043), words("x", "a", "w", "x", "a_", "wax", "x1", "w111", "a9_0")} {
		values := map[string]int{}
		for v := c.Lo; v <= c.Hi; v++ {
			values[plainText(c, v)] = v
		}
		for _, s := range texts {
			if v, found := values[s]; found {
				meant(t, c, s, v)
			} else {
				unmeant(t, c, s)
			}
		}
	}
}

// plainText writes a value as the chapter says, with a remainder for each digit.
func plainText(c api.Column, v int) string {
	if len(c.Words) > 0 {
		return c.Words[v]
	}
	sign, digits := "", ""
	if v < 0 {
		sign, v = "-", -v
	}
	for v > 0 || digits == "" {
		digits, v = "0123456789"[v%10:v%10+1]+digits, v/10
	}
	return sign + digits
}
