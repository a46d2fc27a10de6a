package bell_test

import (
	"slices"
	"strconv"
	"testing"

	"privhouse/api"
	"privhouse/bell"
	"privhouse/bits"
	"privhouse/pick"
	"privhouse/rat"
)

func TestMassesFallOnBothSides(t *testing.T) { // P7.3
	for _, m := range append(small(), great()...) {
		sum := must(bell.Mass(m.q, m.bound, 0))
		before := sum
		for k := 1; k <= m.bound; k++ {
			p := must(bell.Mass(m.q, m.bound, k))
			expect(t, p)(bell.Mass(m.q, m.bound, -k))
			sum = must(rat.Add(sum, must(rat.Mul("2", p))))
			if order := must(rat.Cmp(p, before)); order > 0 || order == 0 && m.q != "1" {
				t.Error(len(m.q), m.bound, k, order)
			}
			before = p
		}
		if sum != "1" {
			t.Error(len(m.q), m.bound, "the sum is not 1")
		}
	}
}

func TestLawCountsBitStrings(t *testing.T) { // P7.4
	for _, r := range ratios(5) {
		for bound := range 4 {
			for n := range 8 {
				// Once with plain ints, once with the draws of the package itself.
				want := counted(n, func(b api.Bits) api.Draw { return r.draw(bound, b) })
				expect(t, want)(bell.Law(r.text(), bound, n))
				expect(t, probabilityOf(want, "late"))(bell.Late(r.text(), bound, n))
			}
		}
	}
	for _, m := range append(small(), model{"1/1" + repeated("0", 14), 3}, model{repeated("9", 14) + "/1" + repeated("0", 14), 7}) {
		for _, n := range []int{0, 3, 6} {
			want := counted(n, func(b api.Bits) api.Draw { return must(bell.Draw(m.q, m.bound, b)) })
			expect(t, want)(bell.Law(m.q, m.bound, n))
			expect(t, probabilityOf(want, "late"))(bell.Late(m.q, m.bound, n))
		}
	}
	for _, m := range []model{{"1/2", 2}, {"4/5", 6}, {"1", 16}} {
		want := counted(api.MaxEnum, func(b api.Bits) api.Draw { return must(bell.Draw(m.q, m.bound, b)) })
		expect(t, want)(bell.Law(m.q, m.bound, api.MaxEnum))
	}
}

func TestAllValuesAlike(t *testing.T) { // P7.5
	for bound := range api.MaxBell + 1 {
		many := 2*bound + 1
		p := must(rat.Make("1", rat.Int(many)))
		var ones []api.Num
		want := map[string]api.Num{}
		for k := -bound; k <= bound; k++ {
			ones = append(ones, "1")
			want[strconv.Itoa(k)] = p
			expect(t, p)(bell.Mass("1", bound, k))
		}
		expect(t, ones)(bell.Weights("1", bound))
		expect(t, distribution(want))(bell.Exact("1", bound))
		for _, b := range must(bits.All(7)) {
			d := must(pick.Below(many, b))
			if d.Done {
				d.Value -= bound
			}
			expect(t, d)(bell.Draw("1", bound, b))
		}
	}
}

func TestBoundZeroAlwaysGivesZero(t *testing.T) { // P7.5
	certain := api.Dist{{Key: "0", P: "1"}}
	for _, q := range []api.Num{"1", "1/2", "999/1000", "1/1000000", "1/1" + repeated("0", 3999), repeated("9", 3999) + "/1" + repeated("0", 3999)} {
		expect(t, api.Num("1"))(bell.Mass(q, 0, 0))
		expect(t, certain)(bell.Exact(q, 0))
		for _, n := range []int{0, 1, 5, api.MaxBits} {
			expect(t, certain)(bell.Law(q, 0, n))
			expect(t, api.Num("0"))(bell.Late(q, 0, n))
			expect(t, decided(0, 0))(bell.Draw(q, 0, pattern("10", n)))
		}
	}
}

func TestNeighbouringMasses(t *testing.T) { // P7.6
	for _, m := range append(small(), great()...) {
		for k := range m.bound {
			factor := must(rat.Pow(m.q, 2*k+1))
			expect(t, factor)(rat.Div(must(bell.Mass(m.q, m.bound, k+1)), must(bell.Mass(m.q, m.bound, k))))
		}
	}
}

func TestMoreBitsChangeNoDecision(t *testing.T) { // P7.1
	tails := append(must(bits.All(2)), pattern("01", 240))
	for _, m := range small() {
		for _, b := range must(bits.All(4)) {
			before := must(bell.Draw(m.q, m.bound, b))
			if !before.Done {
				continue
			}
			for _, tail := range tails {
				expect(t, before)(bell.Draw(m.q, m.bound, b+tail))
			}
		}
	}
}

// form checks that a distribution ascends, has no impossible keys, and that its sum is 1.
func form(t *testing.T, d api.Dist) {
	t.Helper()
	sum, before := api.Num("0"), ""
	for _, m := range d {
		if m.Key <= before || must(rat.Sign(m.P)) <= 0 {
			t.Error(m, "after", before)
		}
		sum, before = must(rat.Add(sum, m.P)), m.Key
	}
	if sum != "1" {
		t.Error(sum)
	}
}

func TestFormOfDistributions(t *testing.T) { // P7.2
	for _, m := range small() {
		form(t, must(bell.Exact(m.q, m.bound)))
		for _, n := range []int{0, 1, 6, 64, api.MaxBits} {
			form(t, must(bell.Law(m.q, m.bound, n)))
		}
	}
	keys := func(d api.Dist) []string {
		var l []string
		for _, m := range d {
			l = append(l, m.Key)
		}
		return l
	}
	want := []string{"-1", "-10", "-11", "-2", "-3", "-4", "-5", "-6", "-7", "-8", "-9", "0", "1", "10", "11", "2", "3", "4", "5", "6", "7", "8", "9"}
	if got := keys(must(bell.Exact("9/10", 11))); !slices.Equal(got, want) {
		t.Error(got)
	}
	if got := keys(must(bell.Law("99/100", 11, 40))); !slices.Equal(got, append(want, "late")) {
		t.Error(got)
	}
	// The cells of four bits are longer than the parts of the values other than 0.
	expect(t, api.Dist{{Key: "0", P: "7/8"}, {Key: "late", P: "1/8"}})(bell.Law("1/1000", 3, 4))
	expect(t, api.Dist{{Key: "-1", P: "1/32"}, {Key: "0", P: "13/16"}, {Key: "1", P: "1/32"}, {Key: "late", P: "1/8"}})(bell.Law("1/10", 2, 5))
}

func TestSameCallsSameResults(t *testing.T) { // P2, R4
	for _, m := range []model{{"1/2", 0}, {"1/2", 1}, {"2/3", 16}, {"1", 7}} {
		for _, call := range []func() (api.Dist, api.Errno){
			func() (api.Dist, api.Errno) { return bell.Law(m.q, m.bound, 5) },
			func() (api.Dist, api.Errno) { return bell.Exact(m.q, m.bound) },
		} {
			first := must(call())
			kept := slices.Clone(first)
			for i := range first {
				first[i] = api.Mass{Key: "spoiled", P: "7"}
			}
			expect(t, kept)(call())
		}
		weights := must(bell.Weights(m.q, m.bound))
		kept := slices.Clone(weights)
		for i := range weights {
			weights[i] = "spoiled"
		}
		expect(t, kept)(bell.Weights(m.q, m.bound))
		expect(t, must(bell.Draw(m.q, m.bound, "0110")))(bell.Draw(m.q, m.bound, "0110"))
		expect(t, must(bell.Late(m.q, m.bound, 5)))(bell.Late(m.q, m.bound, 5))
		expect(t, must(bell.Mass(m.q, m.bound, 0)))(bell.Mass(m.q, m.bound, 0))
	}
}
