package bits_test

import (
	"math"
	"slices"
	"strings"
	"testing"

	"privhouse/api"
	"privhouse/bits"
)

func TestExamples(t *testing.T) { // P3.1 to P3.3
	got(bits.Number("101")).is(t, "5")
	got(bits.Number("")).is(t, "0")
	got(bits.Word("5", 4)).is(t, "0101")
	got(bits.Word("5", 2)).fails(t, api.ErrRange)
	gotCell(bits.Cell("101")).is(t, [2]api.Num{"5/8", "1/8"})
	gotCell(bits.Cell("")).is(t, [2]api.Num{"0", "1"})
	expectList(t, "00", "01", "10", "11")(bits.All(2))
	refuseList(t, api.ErrRange)(bits.All(13))
	if e := bits.Check("012"); e != api.ErrForm {
		t.Error(e)
	}
	got(bits.FromBytes([]byte{160}, 3)).is(t, "101")
	got(bits.FromBytes([]byte{160}, 9)).fails(t, api.ErrShort)
	expectList(t, "01", "00", "11")(bits.Cut("010011", 2))
	refuseList(t, api.ErrShort)(bits.Cut("010", 2))
}

func TestCheck(t *testing.T) { // P3.1
	for _, b := range append(samples(), ones(257), mixed(100000)) {
		if e := bits.Check(b); e != api.OK {
			t.Error(b, e)
		}
	}
	for _, good := range []api.Bits{"", "0", "1", "01", mixed(9), mixed(256), mixed(257)} {
		for _, b := range spoiled(good) {
			if e := bits.Check(b); e != api.ErrForm {
				t.Errorf("%q %v", b, e)
			}
		}
	}
}

func TestNumber(t *testing.T) { // P3.1
	for _, b := range samples() {
		got(bits.Number(b)).is(t, valueOf(b))
	}
	got(bits.Number(ones(256))).is(t, "115792089237316195423570985008687907853269984665640564039457584007913129639935")
}

func TestCell(t *testing.T) { // P3.1
	for _, b := range samples() {
		gotCell(bits.Cell(b)).is(t, [2]api.Num{fractionOf(b), widthOf(len(b))})
	}
	gotCell(bits.Cell("0")).is(t, [2]api.Num{"0", "1/2"})
	gotCell(bits.Cell("1")).is(t, [2]api.Num{"1/2", "1/2"})
	gotCell(bits.Cell("100")).is(t, [2]api.Num{"1/2", "1/8"})
	gotCell(bits.Cell("110")).is(t, [2]api.Num{"3/4", "1/8"})
	gotCell(bits.Cell(zeros(256))).is(t, [2]api.Num{"0", "1/115792089237316195423570985008687907853269984665640564039457584007913129639936"})
}

func TestNumberAndCellRefuse(t *testing.T) { // P3.1
	for _, good := range []api.Bits{"", "0", "10", mixed(61), mixed(256), mixed(257), mixed(1000)} {
		for _, b := range spoiled(good) {
			got(bits.Number(b)).fails(t, api.ErrForm)
			gotCell(bits.Cell(b)).fails(t, api.ErrForm)
		}
	}
	for _, b := range []api.Bits{zeros(257), ones(257), mixed(257), mixed(512), zeros(100000)} {
		got(bits.Number(b)).fails(t, api.ErrLong)
		gotCell(bits.Cell(b)).fails(t, api.ErrLong)
	}
}

func TestWord(t *testing.T) { // P3.2
	for _, b := range samples() {
		got(bits.Word(valueOf(b), len(b))).is(t, b)
	}
	for n := 0; n <= api.MaxBits; n++ {
		got(bits.Word(valueOf(ones(n)), n)).is(t, ones(n))
		got(bits.Word(valueOf("1"+zeros(n)), n)).fails(t, api.ErrRange)
		got(bits.Word(valueOf("1"+mixed(n)), n)).fails(t, api.ErrRange)
		got(bits.Word("0", n)).is(t, zeros(n))
	}
	most := api.Num(strings.Repeat("9", api.MaxDigits))
	got(bits.Word(most, 256)).fails(t, api.ErrRange)
	for _, n := range []int{-1, -256, math.MinInt, 257, 1000, math.MaxInt} {
		got(bits.Word("0", n)).fails(t, api.ErrRange)
		got(bits.Word("5", n)).fails(t, api.ErrRange)
		got(bits.Word(most, n)).fails(t, api.ErrRange)
	}
}

func TestWordOfNoNumber(t *testing.T) { // P3.2
	long := api.Num("1" + strings.Repeat("0", api.MaxDigits))
	for _, n := range []int{-1, 0, 1, 4, 256, 257, math.MinInt, math.MaxInt} {
		for _, k := range []api.Num{"", "00", "01", "-1", "-0", "1/2", "2/1", "x", "1 ", " 1", "+1", "1.0", "5x", "0x5"} {
			got(bits.Word(k, n)).fails(t, api.ErrForm)
		}
		got(bits.Word(long, n)).fails(t, api.ErrOver)
	}
}

func TestAll(t *testing.T) { // P3.2
	want := []api.Bits{""}
	for n := 0; n <= api.MaxEnum; n++ {
		expectList(t, want...)(bits.All(n))
		var longer []api.Bits
		for _, b := range want {
			longer = append(longer, b+"0", b+"1")
		}
		want = longer
	}
	for _, n := range []int{-1, 13, 64, 256, math.MinInt, math.MaxInt} {
		refuseList(t, api.ErrRange)(bits.All(n))
	}
}

// digitsOf returns the binary digits of a byte.
func digitsOf(x int) api.Bits {
	b := api.Bits("")
	for range 8 {
		b = api.Bits(rune('0'+x%2)) + b
		x /= 2
	}
	return b
}

func TestFromOneByte(t *testing.T) { // P3.3
	for x := range 256 {
		for n := 0; n <= 8; n++ {
			got(bits.FromBytes([]byte{byte(x)}, n)).is(t, digitsOf(x)[:n])
			got(bits.FromBytes([]byte{byte(x), 255}, n)).is(t, digitsOf(x)[:n])
		}
		got(bits.FromBytes([]byte{byte(x)}, 9)).fails(t, api.ErrShort)
	}
}

func TestFromBytes(t *testing.T) { // P3.3
	var given []byte
	var whole api.Bits
	for i := range 256 {
		given = append(given, byte(i*37+11))
		whole += digitsOf((i*37 + 11) % 256)
	}
	for n := 0; n <= api.MaxBits; n++ {
		needed := (n + 7) / 8
		got(bits.FromBytes(given, n)).is(t, whole[:n])
		got(bits.FromBytes(given[:needed], n)).is(t, whole[:n])
		if n > 0 {
			got(bits.FromBytes(given[:needed-1], n)).fails(t, api.ErrShort)
		}
	}
	got(bits.FromBytes(nil, 0)).is(t, "")
	got(bits.FromBytes([]byte{}, 0)).is(t, "")
	got(bits.FromBytes(nil, 1)).fails(t, api.ErrShort)
	got(bits.FromBytes(nil, 256)).fails(t, api.ErrShort)
	for _, n := range []int{-1, -8, math.MinInt, 257, 264, math.MaxInt} {
		got(bits.FromBytes(given, n)).fails(t, api.ErrRange)
		got(bits.FromBytes(nil, n)).fails(t, api.ErrRange)
	}
}

func TestFromBytesKeepsNothing(t *testing.T) { // P3.3, P2
	given := []byte{0xa5, 0x0f}
	b, _ := bits.FromBytes(given, 12)
	if !slices.Equal(given, []byte{0xa5, 0x0f}) {
		t.Error(given)
	}
	given[0], given[1] = 0, 0
	if b != "101001010000" {
		t.Error(b)
	}
}

func TestCut(t *testing.T) { // P3.3
	for _, n := range []int{1, 2, 3, 59, 60, 61, 255, 256} {
		expectList(t)(bits.Cut("", n))
		for count := range 6 {
			b := mixed(n * count)
			var want []api.Bits
			for i := range count {
				want = append(want, b[i*n:(i+1)*n])
			}
			expectList(t, want...)(bits.Cut(b, n))
			if n > 1 {
				refuseList(t, api.ErrShort)(bits.Cut(b+"1", n))
				refuseList(t, api.ErrShort)(bits.Cut(b+mixed(n-1), n))
			}
		}
	}
	expectList(t, mixed(256))(bits.Cut(mixed(256), 256))
	refuseList(t, api.ErrShort)(bits.Cut(mixed(257), 256))
	refuseList(t, api.ErrShort)(bits.Cut(mixed(255), 256))
}

func TestCutRefuses(t *testing.T) { // P3.3
	for _, n := range []int{0, -1, math.MinInt, 257, math.MaxInt} {
		for _, b := range []api.Bits{"", "0", mixed(256), mixed(257), mixed(514)} {
			refuseList(t, api.ErrRange)(bits.Cut(b, n))
		}
	}
	for _, n := range []int{-1, 0, 1, 2, 7, 256, 257} {
		for _, good := range []api.Bits{"", "01", mixed(7), mixed(300)} {
			for _, b := range spoiled(good) {
				refuseList(t, api.ErrForm)(bits.Cut(b, n))
			}
		}
	}
}

func TestJoin(t *testing.T) { // P3.3
	got(bits.Join(nil)).is(t, "")
	got(bits.Join([]api.Bits{})).is(t, "")
	got(bits.Join([]api.Bits{"", ""})).is(t, "")
	got(bits.Join([]api.Bits{"01", "", "1", "1"})).is(t, "0111")
	got(bits.Join([]api.Bits{mixed(300), mixed(257), "0"})).is(t, mixed(300)+mixed(257)+"0")
	list := []api.Bits{"0", "10", "", mixed(300), "1"}
	for i := range list {
		for _, b := range spoiled("01") {
			bad := slices.Clone(list)
			bad[i] = b
			got(bits.Join(bad)).fails(t, api.ErrForm)
		}
	}
	got(bits.Join(list)).is(t, "010"+mixed(300)+"1")
}
