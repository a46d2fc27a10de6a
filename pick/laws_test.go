package pick_test

import (
	"reflect"
	"slices"
	"strconv"
	"testing"

	"privhouse/api"
	"privhouse/bits"
	"privhouse/coin"
	"privhouse/pick"
	"privhouse/rat"
)

// all returns short and long lists of weights.
func all() [][]api.Num {
	l := greatWeights()
	for i, weights := range smallWeights() {
		if i%7 == 0 || len(weights) > 3 {
			l = append(l, numbers(weights))
		}
	}
	return l
}

func TestShortLaws(t *testing.T) { // P5.2
	for _, weights := range smallWeights() {
		for n := range 7 {
			want := counted(n, func(b api.Bits) api.Draw { return draw(weights, b) })
			expect(t, want)(pick.Law(numbers(weights), n))
			expect(t, probabilityOf(want, "late"))(pick.Late(numbers(weights), n))
		}
	}
}

func TestLongLaws(t *testing.T) { // P5.2
	for _, weights := range all() {
		for _, n := range []int{0, 3, 13, 64, api.MaxBits} {
			want := law(weights, n)
			expect(t, want)(pick.Law(weights, n))
			expect(t, probabilityOf(want, "late"))(pick.Late(weights, n))
		}
	}
}

func TestExact(t *testing.T) { // P5.2
	for _, weights := range all() {
		places := borders(weights)
		var want api.Dist
		for i, border := range places[1:] {
			want = append(want, api.Mass{Key: strconv.Itoa(i), P: must(rat.Sub(border, places[i]))})
		}
		expect(t, tidy(want))(pick.Exact(weights))
	}
	expect(t, api.Dist{{Key: "1", P: "1"}})(pick.Exact(list("0 5 0")))
	expect(t, api.Dist{{Key: "0", P: "1"}})(pick.Exact(list("7")))
}

func TestLawCountsBitStrings(t *testing.T) { // P5.3
	for _, weights := range all() {
		count := func(n int) {
			want := counted(n, func(b api.Bits) api.Draw { return must(pick.Draw(weights, b)) })
			expect(t, want)(pick.Law(weights, n))
			expect(t, probabilityOf(want, "late"))(pick.Late(weights, n))
		}
		count(0)
		count(4)
		if len(weights[0]) < 20 {
			count(8)
		}
	}
	for _, weights := range [][]api.Num{list("1 1 1"), list("1000 1 0 3095"), numbers(longWeights()[0])} {
		want := counted(api.MaxEnum, func(b api.Bits) api.Draw { return must(pick.Draw(weights, b)) })
		expect(t, want)(pick.Law(weights, api.MaxEnum))
	}
}

func TestLawIsBelowExact(t *testing.T) { // P5.4
	for _, weights := range all() {
		exact := must(pick.Exact(weights))
		for _, n := range []int{0, 1, 2, 5, 8, 100, api.MaxBits} {
			twice := must(rat.Mul("2", must(rat.Pow("1/2", n))))
			short := must(pick.Law(weights, n))
			for i := range weights {
				key := strconv.Itoa(i)
				missing := must(rat.Sub(probabilityOf(exact, key), probabilityOf(short, key)))
				if must(rat.Sign(missing)) < 0 || must(rat.Cmp(missing, twice)) >= 0 {
					t.Error(i, n, missing)
				}
			}
		}
	}
}

func TestFewBitStringsAreLate(t *testing.T) { // P5.5
	for _, weights := range all() {
		possible := 0
		for _, w := range weights {
			if w != "0" {
				possible++
			}
		}
		for _, n := range []int{0, 1, 2, 5, 8, 100, api.MaxBits} {
			many := must(rat.Mul(must(pick.Late(weights, n)), must(rat.Pow("2", n))))
			if must(rat.Cmp(many, rat.Int(possible-1))) > 0 {
				t.Error(possible, n, many)
			}
		}
	}
	// There are lists with as many late bit strings.
	expect(t, api.Num("3/16"))(pick.Late(list("3 5 5 4"), 4))
}

func TestMultiples(t *testing.T) { // P5.6
	for _, weights := range append([][]api.Num{{digits(1000), "1", "0"}}, all()...) {
		if len(weights[0]) > 2000 || len(weights) > 1 && len(weights[1]) > 2000 || len(weights) > 32 && len(weights[31]) > 2000 {
			continue
		}
		for _, factor := range []api.Num{"2", "3", "1000000007", digits(1000)} {
			var multiples []api.Num
			for _, w := range weights {
				multiples = append(multiples, must(rat.Mul(w, factor)))
			}
			expect(t, must(pick.Exact(weights)))(pick.Exact(multiples))
			for _, n := range []int{0, 1, 6, 256} {
				expect(t, must(pick.Law(weights, n)))(pick.Law(multiples, n))
				expect(t, must(pick.Late(weights, n)))(pick.Late(multiples, n))
			}
			for _, b := range must(bits.All(3)) {
				expect(t, must(pick.Draw(weights, b)))(pick.Draw(multiples, b))
			}
		}
	}
}

func TestWeightZeroIsNeverDrawn(t *testing.T) { // P5.6
	for _, weights := range all() {
		for i, w := range weights {
			if w != "0" {
				continue
			}
			key := strconv.Itoa(i)
			for _, n := range []int{0, 1, 6, 256} {
				if p := probabilityOf(must(pick.Law(weights, n)), key); p != "0" {
					t.Error(i, n, p)
				}
			}
			if p := probabilityOf(must(pick.Exact(weights)), key); p != "0" {
				t.Error(i, p)
			}
			for _, b := range must(bits.All(4)) {
				if d := must(pick.Draw(weights, b)); d.Done && d.Value == i {
					t.Error(i, b, d)
				}
			}
		}
	}
}

func TestWeightsZeroBetweenOthers(t *testing.T) { // P5.6
	for n := range 7 {
		for _, b := range must(bits.All(n)) {
			want := must(pick.Draw(list("3 5 7"), b))
			for _, x := range []struct {
				weights string
				places  [3]int
			}{{"0 3 5 7", [3]int{1, 2, 3}}, {"3 0 0 5 7", [3]int{0, 3, 4}}, {"3 5 7 0 0", [3]int{0, 1, 2}}, {"0 0 3 0 5 0 7 0", [3]int{2, 4, 6}}} {
				moved := want
				if want.Done {
					moved.Value = x.places[want.Value]
				}
				expect(t, moved)(pick.Draw(list(x.weights), b))
			}
		}
	}
}

func TestBelowIsADrawWithEqualWeights(t *testing.T) { // P5.7
	for many := 1; many <= api.MaxDomain; many++ {
		weights := repeated("1", many)
		tests := append(must(bits.All(0)), must(bits.All(5))...)
		tests = append(tests, must(bits.All(7))...)
		for _, b := range append(tests, alternating(255), alternating(256), "0"+alternating(255)) {
			expect(t, must(pick.Draw(weights, b)))(pick.Below(many, b))
		}
	}
}

func TestTwoWeightsAreACoin(t *testing.T) { // P5.1
	// A coin has the value 1 where U is less than its probability, and there the first weight is.
	for _, weights := range append(smallWeights()[:40], []int{97, 31}, []int{1, 100000}) {
		if len(weights) != 2 {
			continue
		}
		p := must(rat.Make(rat.Int(weights[0]), rat.Int(weights[0]+weights[1])))
		for _, b := range append(must(bits.All(6)), alternating(256)) {
			want := must(coin.Draw(p, b))
			if want.Done {
				want.Value = 1 - want.Value
			}
			expect(t, want)(pick.Draw(numbers(weights), b))
		}
	}
}

func TestMoreBitsChangeNoDecision(t *testing.T) { // P5.1
	tails := append(must(bits.All(2)), alternating(240))
	for _, weights := range all() {
		for _, b := range must(bits.All(4)) {
			before := must(pick.Draw(weights, b))
			if !before.Done {
				continue
			}
			for _, tail := range tails {
				expect(t, before)(pick.Draw(weights, b+tail))
			}
		}
	}
}

// form checks that a distribution ascends, has no impossible keys, and that its sum is 1.
func form(t *testing.T, d api.Dist) {
	t.Helper()
	sum, before := api.Num("0"), ""
	for _, m := range d {
		if m.Key <= before || must(rat.Sign(m.P)) <= 0 {
			t.Error(m, "after", before)
		}
		sum, before = must(rat.Add(sum, m.P)), m.Key
	}
	if sum != "1" {
		t.Error(sum)
	}
}

func TestFormOfDistributions(t *testing.T) { // P5.2
	for _, weights := range all() {
		form(t, must(pick.Exact(weights)))
		for _, n := range []int{0, 1, 6, 64, api.MaxBits} {
			form(t, must(pick.Law(weights, n)))
		}
	}
	want := []string{"0", "1", "10", "11", "2", "3", "4", "5", "6", "7", "8", "9", "late"}
	var keys []string
	for _, m := range must(pick.Law(repeated("1", 12), 8)) {
		keys = append(keys, m.Key)
	}
	if !slices.Equal(keys, want) {
		t.Error(keys)
	}
}

func TestSameCallsSameResults(t *testing.T) { // P2, R4
	for _, weights := range all() {
		given := slices.Clone(weights)
		for _, call := range []func() (api.Dist, api.Errno){
			func() (api.Dist, api.Errno) { return pick.Law(weights, 5) },
			func() (api.Dist, api.Errno) { return pick.Exact(weights) },
		} {
			first := must(call())
			kept := slices.Clone(first)
			for i := range first {
				first[i] = api.Mass{Key: "spoiled", P: "7"}
			}
			if again := must(call()); !reflect.DeepEqual(again, kept) {
				t.Error(again, kept)
			}
		}
		expect(t, must(pick.Draw(weights, "0110")))(pick.Draw(weights, "0110"))
		expect(t, must(pick.Late(weights, 5)))(pick.Late(weights, 5))
		if !slices.Equal(weights, given) {
			t.Error("the weights have changed")
		}
	}
}
