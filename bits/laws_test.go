package bits_test

import (
	"testing"

	"privhouse/api"
	"privhouse/bits"
	"privhouse/rat"
)

// sum returns the sum of two numbers.
func sum(t *testing.T, a, b api.Num) api.Num {
	t.Helper()
	c, e := rat.Add(a, b)
	if e != api.OK {
		t.Fatal(a, b, e)
	}
	return c
}

// cell returns the cell of a bit string.
func cell(t *testing.T, b api.Bits) (low, width api.Num) {
	t.Helper()
	low, width, e := bits.Cell(b)
	if e != api.OK {
		t.Fatal(b, e)
	}
	return low, width
}

func TestCellsFillTheUnitInterval(t *testing.T) { // P3.4
	for n := 0; n <= api.MaxEnum; n++ {
		all, _ := bits.All(n)
		if len(all) != 1<<n {
			t.Fatal(n, len(all))
		}
		_, length := cell(t, all[0])
		end := api.Num("0")
		for _, b := range all {
			low, width := cell(t, b)
			if low != end || width != length {
				t.Fatal(b, low, width)
			}
			end = sum(t, low, width)
		}
		if end != "1" {
			t.Error(n, end)
		}
	}
	// The last cells of longer bit strings end at 1, too.
	for n := range api.MaxBits + 1 {
		low, width := cell(t, ones(n))
		if sum(t, low, width) != "1" {
			t.Error(n, low, width)
		}
	}
}

func TestHalvesOfCells(t *testing.T) { // P3.5
	for _, b := range samples() {
		if len(b) == api.MaxBits {
			continue
		}
		low, width := cell(t, b)
		left, leftWidth := cell(t, b+"0")
		right, rightWidth := cell(t, b+"1")
		if left != low || leftWidth != rightWidth || sum(t, leftWidth, rightWidth) != width || right != sum(t, low, leftWidth) {
			t.Error(b, low, width, left, leftWidth, right, rightWidth)
		}
	}
}

func TestWordAndNumberAreInverse(t *testing.T) { // P3.6
	for _, b := range samples() {
		k, e := bits.Number(b)
		if e != api.OK {
			t.Fatal(b, e)
		}
		got(bits.Word(k, len(b))).is(t, b)
	}
	for k := range 1 << 10 {
		for n := 10; n <= api.MaxBits; n += 41 {
			b, e := bits.Word(rat.Int(k), n)
			if e != api.OK || len(b) != n {
				t.Fatal(k, n, b, e)
			}
			got(bits.Number(b)).is(t, rat.Int(k))
		}
	}
}

func TestCutAndJoinAreInverse(t *testing.T) { // P3.6
	for n := 1; n <= api.MaxBits; n++ {
		b := mixed(7 * n)
		pieces, e := bits.Cut(b, n)
		if e != api.OK {
			t.Fatal(n, e)
		}
		got(bits.Join(pieces)).is(t, b)
		list := []api.Bits{ones(n), mixed(n), zeros(n), mixed(n)}
		joined, e := bits.Join(list)
		if e != api.OK {
			t.Fatal(n, e)
		}
		expectList(t, list...)(bits.Cut(joined, n))
	}
}

func TestSameCallsHaveTheSameResults(t *testing.T) { // P2
	for range 2 {
		got(bits.Number(mixed(200))).is(t, valueOf(mixed(200)))
		got(bits.Word(valueOf(mixed(200)), 200)).is(t, mixed(200))
		gotCell(bits.Cell(mixed(99))).is(t, [2]api.Num{fractionOf(mixed(99)), widthOf(99)})
		got(bits.Join([]api.Bits{"01", "10"})).is(t, "0110")
	}
	first, _ := bits.All(2)
	first[0] = "x"
	expectList(t, "00", "01", "10", "11")(bits.All(2))
	cut, _ := bits.Cut("0110", 2)
	cut[0] = "x"
	expectList(t, "01", "10")(bits.Cut("0110", 2))
}
