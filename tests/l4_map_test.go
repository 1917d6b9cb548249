package tests

import (
	"fmt"
	"math"
	"slices"
	"strings"
	"testing"

	"loop.example/g01161/impl"
)

// Promise 4: pairs carry fractions, and breaks tell reduced pairs.

func TestMaxDepth(t *testing.T) {
	if impl.MaxDepth != 10 {
		t.Error("MaxDepth", impl.MaxDepth)
	}
}

func TestIsFraction(t *testing.T) {
	for den := -3; den <= 2050; den++ {
		for num := -2; num <= den+2; num++ {
			want := false
			if den > 0 {
				x, ok := fractionFor(float64(num) / float64(den))
				want = ok && x == fraction(num, den)
			}
			if got := impl.IsFraction(fraction(num, den)); got != want {
				t.Fatal("IsFraction", num, den, got)
			}
		}
	}
	for _, x := range fractions("0/1 1/1 1/2 1/1024 1023/1024 511/512 513/1024") {
		if !impl.IsFraction(x) {
			t.Error("IsFraction", x)
		}
	}
}

func TestFractionOf(t *testing.T) {
	for _, a := range textsOf("01", 10) {
		want, fine := fractionFor(number(a))
		if got, ok := impl.FractionOf(a); !fine || !ok || got != want {
			t.Error("FractionOf", a, got, ok, want)
		}
	}
	gives(t, "FractionOf the empty address", fraction(0, 1))(impl.FractionOf(""))
	gives(t, "FractionOf 10 letters", fraction(1023, 1024))(impl.FractionOf("1111111111"))
	gives(t, "FractionOf 10 letters", fraction(1, 2))(impl.FractionOf("1000000000"))
	fails[impl.Fraction](t, "FractionOf 11 letters")(impl.FractionOf("00000000000"))
	fails[impl.Fraction](t, "FractionOf 11 letters")(impl.FractionOf("10000000001"))
}

func TestAddressOf(t *testing.T) {
	for _, x := range fractionsUpTo(1024) {
		for length := -1; length <= 11; length++ {
			call := fmt.Sprint("AddressOf ", x, length)
			want := places(decimal(x), length)
			if length < 0 || length > 10 || x.Num == x.Den || number(want) != decimal(x) {
				fails[string](t, call)(impl.AddressOf(x, length))
				continue
			}
			gives(t, call, want)(impl.AddressOf(x, length))
		}
	}
	gives(t, "AddressOf 0", "")(impl.AddressOf(fraction(0, 1), 0))
	gives(t, "AddressOf 1/2", "1000000000")(impl.AddressOf(fraction(1, 2), 10))
	fails[string](t, "AddressOf 1/2")(impl.AddressOf(fraction(1, 2), 0))
	fails[string](t, "AddressOf 1")(impl.AddressOf(fraction(1, 1), 0))
	fails[string](t, "AddressOf 1")(impl.AddressOf(fraction(1, 1), 10))
}

// someTrees are all small trees and some with 8 carets.
func someTrees() []string {
	list := treesUpTo(5)
	for k, tree := range treesWith(8) {
		if k%37 == 0 {
			list = append(list, tree)
		}
	}
	return append(list, right(8), left(8))
}

func TestLeafStartsAndLeafOf(t *testing.T) {
	for _, tree := range someTrees() {
		leaves := modelOf(tree).leaves()
		var starts []impl.Fraction
		for _, a := range leaves {
			x, _ := fractionFor(number(a))
			starts = append(starts, x)
		}
		gives(t, "LeafStarts "+tree, starts)(impl.LeafStarts(tree))
		for _, x := range fractionsUpTo(1024) {
			want := slices.IndexFunc(leaves, func(a string) bool { return number(a) <= decimal(x) && decimal(x) < number(a)+width(a) })
			if x == fraction(1, 1) {
				want = len(leaves) - 1
			}
			if got, ok := impl.LeafOf(tree, x); got != want || !ok {
				t.Fatal("LeafOf", tree, x, got, ok, want)
			}
		}
	}
	gives(t, "LeafOf at an end", 1)(impl.LeafOf("(..)", fraction(1, 2)))
	gives(t, "LeafOf 1", 1)(impl.LeafOf("(..)", fraction(1, 1)))
	gives(t, "LeafOf of a leaf", 0)(impl.LeafOf(".", fraction(1, 1)))
	gives(t, "LeafStarts of a leaf", fractions("0/1"))(impl.LeafStarts("."))
}

// somePairsOfAll are all pairs with at most 3 carets, whether reduced or not, and some with 4 and 8.
func somePairsOfAll() []impl.Pair {
	return slices.Concat(pairsUpTo(3), somePairs(4, 30), deepPairs())
}

func TestValueOf(t *testing.T) {
	failed := 0
	for _, p := range somePairsOfAll() {
		r := rulesOf(p)
		for _, x := range fractionsUpTo(1024) {
			want, fine := fractionFor(r.value(decimal(x)))
			if got, ok := impl.ValueOf(p, x); got != want || ok != fine {
				t.Fatal("ValueOf", p, x, got, ok, want)
			}
			if !fine {
				failed++
			}
		}
	}
	if failed == 0 {
		t.Error("no value has more places than a fraction")
	}
}

func TestValueOfEndsAndDeepFractions(t *testing.T) {
	p := impl.Pair{From: right(8), To: left(8)}
	gives(t, "ValueOf 0", fraction(0, 1))(impl.ValueOf(p, fraction(0, 1)))
	gives(t, "ValueOf 1", fraction(1, 1))(impl.ValueOf(p, fraction(1, 1)))
	gives(t, "ValueOf 1/2", fraction(1, 256))(impl.ValueOf(p, fraction(1, 2)))
	gives(t, "ValueOf 1/8", fraction(1, 1024))(impl.ValueOf(p, fraction(1, 8)))
	fails[impl.Fraction](t, "ValueOf 1/16")(impl.ValueOf(p, fraction(1, 16)))
	fails[impl.Fraction](t, "ValueOf 3/16")(impl.ValueOf(p, fraction(3, 16)))
	gives(t, "ValueOf 1023/1024", fraction(7, 8))(impl.ValueOf(p, fraction(1023, 1024)))
}

// TestProductsCarryOn checks that a product carries a fraction as both pairs do, and an inverse back.
func TestProductsCarryOn(t *testing.T) {
	list := append(reducedUpTo(3), somePairs(4, 5)...)
	for _, p := range list {
		undone, _ := impl.InversePair(p)
		for _, q := range list {
			both, _ := impl.ProductPair(p, q)
			for _, x := range fractionsUpTo(32) {
				once, _ := impl.ValueOf(p, x)
				gives(t, "ValueOf back", x)(impl.ValueOf(undone, once))
				if twice, ok := impl.ValueOf(q, once); ok {
					gives(t, fmt.Sprint("ValueOf of the product of ", p, q), twice)(impl.ValueOf(both, x))
				}
			}
		}
	}
}

func TestSlopesOf(t *testing.T) {
	for _, p := range somePairsOfAll() {
		to := modelOf(p.To).leaves()
		var slopes []int
		for leaf, a := range modelOf(p.From).leaves() {
			slopes = append(slopes, len(a)-len(to[leaf]))
		}
		gives(t, fmt.Sprint("SlopesOf ", p), slopes)(impl.SlopesOf(p))
	}
	gives(t, "SlopesOf two leaves", []int{0})(impl.SlopesOf(impl.IdentityPair()))
	gives(t, "SlopesOf a pair that is not reduced", []int{0, 0, 0})(impl.SlopesOf(pair("((..).)>((..).)")))
}

func TestSlopeAt(t *testing.T) {
	for _, p := range somePairsOfAll() {
		r := rulesOf(p)
		for _, x := range fractionsUpTo(1024) {
			left, right := r.slopesBeside(decimal(x))
			want := right
			if x == fraction(1, 1) {
				want = left
			}
			if got, ok := impl.SlopeAt(p, x); float64(got) != want || !ok {
				t.Fatal("SlopeAt", p, x, got, ok, want)
			}
		}
	}
}

func TestBreaks(t *testing.T) {
	for _, p := range somePairsOfAll() {
		r := rulesOf(p)
		at := fractionsFor(r.breaks())
		to := fractionsFor(r.values(r.breaks()))
		gives(t, fmt.Sprint("BreaksOf ", p), at)(impl.BreaksOf(p))
		gives(t, fmt.Sprint("BreakValues ", p), to)(impl.BreakValues(p))
		fixed := fractions("0/1")
		graph := "-"
		for k := range at {
			if at[k] == to[k] {
				fixed = append(fixed, at[k])
			}
			graph += fmt.Sprintf(",%d/%d>%d/%d", at[k].Num, at[k].Den, to[k].Num, to[k].Den)
		}
		if len(at) > 0 {
			graph = strings.TrimPrefix(graph, "-,")
		}
		gives(t, fmt.Sprint("FixedFractions ", p), append(fixed, fraction(1, 1)))(impl.FixedFractions(p))
		gives(t, fmt.Sprint("GraphText ", p), graph)(impl.GraphText(p))
	}
}

// TestAllSlopesAreBetweenBreaks looks at every place of a fine grid, not at ends of leaves alone.
func TestAllSlopesAreBetweenBreaks(t *testing.T) {
	for _, p := range somePairsOfAll() {
		r := rulesOf(p)
		breaks, _ := impl.BreaksOf(p)
		for _, x := range between(fractionsUpTo(512)) {
			left, right := r.slopesBeside(decimal(x))
			if slices.Contains(breaks, x) != (left != right) {
				t.Fatal("BreaksOf", p, breaks, x, left, right)
			}
		}
	}
}

func TestPairsWithNoBreaks(t *testing.T) {
	for _, tree := range someTrees() {
		p := impl.Pair{From: tree, To: tree}
		gives[[]impl.Fraction](t, "BreaksOf twice "+tree, nil)(impl.BreaksOf(p))
		gives[[]impl.Fraction](t, "BreakValues twice "+tree, nil)(impl.BreakValues(p))
		gives(t, "FixedFractions twice "+tree, fractions("0/1 1/1"))(impl.FixedFractions(p))
		gives(t, "GraphText twice "+tree, "-")(impl.GraphText(p))
		gives(t, "ValueOf twice "+tree, fraction(1, 1024))(impl.ValueOf(p, fraction(1, 1024)))
		gives(t, "ValueOf twice "+tree, fraction(1, 1))(impl.ValueOf(p, fraction(1, 1)))
	}
}

// TestFixedFractions has pairs that fix 1/2: with different slopes on both sides of it, and with the same slope, so that it is no break.
func TestFixedFractions(t *testing.T) {
	for text, want := range map[string]string{
		"(((..).)((..).))>((.(..))(.(..)))":             "0/1 1/2 1/1",
		"(((..).)(.(..)))>((.(..))((..).))":             "0/1 1/1",
		"(.((..).))>(.(.(..)))":                         "0/1 1/2 1/1",
		"(((..).).)>((.(..)).)":                         "0/1 1/2 1/1",
		"((..)(..))>((..)(..))":                         "0/1 1/1",
		"((((..).)((..).)).)>(((.(..))(.(..))).)":       "0/1 1/4 1/2 1/1",
		"(((..)((..).))((..).))>(((..)(.(..)))(.(..)))": "0/1 1/4 1/2 1/1",
	} {
		p := pair(text)
		gives(t, "FixedFractions "+text, fractions(want))(impl.FixedFractions(p))
		gives(t, "ValueOf 1/2 "+text, fraction(1, 2))(impl.ValueOf(p, fraction(1, 2)))
	}
}

// TestBreaksTellReducedPairs makes each pair again of its breaks, reduced.
func TestBreaksTellReducedPairs(t *testing.T) {
	for _, p := range slices.Concat(pairsUpTo(4), deepPairs(), somePairs(7, 50)) {
		at, _ := impl.BreaksOf(p)
		to, _ := impl.BreakValues(p)
		gives(t, fmt.Sprint("PairOfBreaks of ", p), rulesOf(p).reduced().pair())(impl.PairOfBreaks(at, to))
		same, _ := impl.ReducePair(p)
		again, _ := impl.PairOfBreaks(at, to)
		if again != same {
			t.Error("PairOfBreaks", p, again, same)
		}
	}
}

// TestDifferentPairsHaveDifferentGraphs checks that a graph belongs to one reduced pair alone.
func TestDifferentPairsHaveDifferentGraphs(t *testing.T) {
	seen := map[string]impl.Pair{}
	for _, p := range reducedUpTo(4) {
		text, ok := impl.GraphText(p)
		if other, has := seen[text]; has || !ok {
			t.Error("GraphText", text, p, other)
		}
		seen[text] = p
	}
}

// checkBreaks holds PairOfBreaks against the graph through the same fractions.
func checkBreaks(t *testing.T, at []impl.Fraction, to []impl.Fraction) bool {
	t.Helper()
	var want impl.Pair
	g := graphThrough(at, to)
	fine := g.hasPowers()
	if fine {
		var r rules
		r, fine = g.rules()
		if fine {
			want = r.pair()
		}
	}
	got, ok := impl.PairOfBreaks(at, to)
	if got != want || ok != fine {
		t.Errorf("PairOfBreaks %v, %v is %v, %v, not %v, %v", at, to, got, ok, want, fine)
	}
	return fine
}

func TestPairOfBreaks(t *testing.T) {
	made, failed := 0, 0
	for _, c := range []struct {
		den  int
		most int
	}{{8, 7}, {16, 2}, {32, 1}, {512, 1}} {
		from := between(fractionsUpTo(c.den))
		for count := range c.most + 1 {
			all := listsOf(from, count)
			for _, at := range all {
				for _, to := range all {
					if checkBreaks(t, at, to) {
						made++
					} else {
						failed++
					}
				}
			}
		}
	}
	if made < 600 || failed < 600 {
		t.Error("PairOfBreaks", made, failed)
	}
}

// TestPairOfBreaksBetweenBreaks gives fractions at which the slope does not change, too.
func TestPairOfBreaksBetweenBreaks(t *testing.T) {
	for _, p := range reducedUpTo(3) {
		for k := range 1 << 7 {
			var at, to []impl.Fraction
			for i, x := range between(fractionsUpTo(8)) {
				breaks, _ := impl.BreaksOf(p)
				if slices.Contains(breaks, x) || k>>i&1 == 1 {
					y, _ := impl.ValueOf(p, x)
					at, to = append(at, x), append(to, y)
				}
			}
			gives(t, fmt.Sprint("PairOfBreaks ", p, at), p)(impl.PairOfBreaks(at, to))
		}
	}
}

func TestPairOfBreaksAtTheLimits(t *testing.T) {
	gives(t, "PairOfBreaks of none", impl.IdentityPair())(impl.PairOfBreaks(nil, nil))
	gives(t, "PairOfBreaks of none", impl.IdentityPair())(impl.PairOfBreaks([]impl.Fraction{}, nil))
	for _, text := range []string{
		"1/2", "1/1024", "1023/1024", "1/1024 3/1024 5/1024 7/1024 9/1024 11/1024 13/1024 1023/1024", "1/1024 1/512 1/256 1/128 1/64 1/32 1/16 1/8",
	} {
		list := fractions(text)
		gives(t, "PairOfBreaks of fixed "+text, impl.IdentityPair())(impl.PairOfBreaks(list, list))
	}
	nine := fractions("1/1024 1/512 1/256 1/128 1/64 1/32 1/16 1/8 1/4")
	fails[impl.Pair](t, "PairOfBreaks of 9")(impl.PairOfBreaks(nine, nine))
	fails[impl.Pair](t, "PairOfBreaks of 9 and 8")(impl.PairOfBreaks(nine, nine[:8]))
	fails[impl.Pair](t, "PairOfBreaks of 8 and 9")(impl.PairOfBreaks(nine[:8], nine))
	steep := impl.Pair{From: left(8), To: right(8)}
	at, to := fractions("1/256 127/256 1/2"), fractions("1/2 255/256 511/512")
	checkBreaks(t, at, to)
	breaks, _ := impl.BreaksOf(steep)
	values, _ := impl.BreakValues(steep)
	gives(t, "PairOfBreaks of the steepest", steep)(impl.PairOfBreaks(breaks, values))
}

func TestPairOfBreaksFailsForOtherSlopes(t *testing.T) {
	for _, c := range [][2]string{
		{"1/2", "1/4"}, {"1/4", "1/2"}, {"1/2", "3/4"}, {"1/4 1/2", "1/8 1/2"}, {"1/4 3/4", "3/8 7/8"},
		{"1/1024 1/2", "1/512 3/4"}, {"1/8", "1/4"}, {"1/1024", "1023/1024"}, {"1/4 1/2 3/4", "1/4 1/2 5/8"},
	} {
		call := "PairOfBreaks " + c[0] + " to " + c[1]
		fails[impl.Pair](t, call)(impl.PairOfBreaks(fractions(c[0]), fractions(c[1])))
		if graphThrough(fractions(c[0]), fractions(c[1])).hasPowers() {
			t.Error(call, "has powers of 2 alone")
		}
	}
}

// TestPairOfBreaksWithManyCarets has x(0) on a small part alone, which takes more and more carets.
func TestPairOfBreaksWithManyCarets(t *testing.T) {
	inner := func(list ...float64) []impl.Fraction {
		return fractionsFor(slices.DeleteFunc(list, func(x float64) bool { return x == 0 || x == 1 }))
	}
	for part, fine := range map[string]bool{
		"": true, "1": true, "01": true, "10110": true, "000000": true, "111111": true, "010101": true,
		"0000000": false, "0101011": false, "1111111": false, "11111111": false,
	} {
		end := number(part) + width(part)
		at := inner(number(part), number(part+"01"), number(part+"1"), end)
		to := inner(number(part), number(part+"10"), number(part+"11"), end)
		if checkBreaks(t, at, to) != fine {
			t.Error("PairOfBreaks for x(0) on", part, at, to)
		}
	}
}

func TestPairOfBreaksFailsForOtherLists(t *testing.T) {
	good := fractions("1/4 1/2")
	image := fractions("1/2 3/4")
	for _, text := range []string{
		"", "1/4", "1/2", "1/4 1/2 3/4", "1/2 1/4", "1/4 1/4", "1/2 1/2", "3/4 1/2", "0/1 1/2", "0/1 1/4", "1/2 1/1", "1/4 1/1", "0/1 1/1", "0/1 0/1", "1/1 1/1",
		"1/4 2/4", "2/8 1/2", "1/4 3/6", "1/4 1/0", "0/0 1/2", "1/4 -1/2", "-1/4 1/2", "-1/-4 1/2", "1/4 5/4", "1/4 1/2048", "1/2048 1/2", "1/4 1/2 1/1", "0/1 1/4 1/2", "1/4 1/2 1/2",
	} {
		list := fractions(text)
		fails[impl.Pair](t, "PairOfBreaks at "+text)(impl.PairOfBreaks(list, image))
		fails[impl.Pair](t, "PairOfBreaks to "+text)(impl.PairOfBreaks(good, list))
		if text != "" && text != "1/4" && text != "1/2" && text != "1/4 1/2 3/4" {
			fails[impl.Pair](t, "PairOfBreaks of "+text)(impl.PairOfBreaks(list, list))
		}
	}
	gives(t, "PairOfBreaks", pair("((..).)>(.(..))"))(impl.PairOfBreaks(good, image))
}

func TestImageOfAddress(t *testing.T) {
	for _, p := range slices.Concat(pairsUpTo(3), deepPairs()[30:]) {
		for _, a := range textsOf("01", 10) {
			want, fine := "", false
			for from, to := range rulesOf(p) {
				if rest, ok := strings.CutPrefix(a, from); ok {
					want, fine = to+rest, true
				}
			}
			if len(want) > impl.MaxDepth {
				want, fine = "", false
			}
			got, ok := impl.ImageOfAddress(p, a)
			if got != want || ok != fine {
				t.Fatal("ImageOfAddress", p, a, got, ok, want)
			}
		}
	}
}

// TestAddressesGoWithFractions checks that the image of an address begins at the value of where it begins.
func TestAddressesGoWithFractions(t *testing.T) {
	for _, p := range somePairsOfAll() {
		for _, a := range textsOf("01", 7) {
			image, ok := impl.ImageOfAddress(p, a)
			if !ok {
				continue
			}
			x, _ := impl.FractionOf(a)
			y, _ := impl.FractionOf(image)
			gives(t, fmt.Sprint("ValueOf ", p, a), y)(impl.ValueOf(p, x))
			slope, ok := impl.SlopeAt(p, x)
			if !ok || slope != len(a)-len(image) {
				t.Error("SlopeAt", p, a, slope, ok)
			}
		}
	}
}

func TestImageOfAddressAtTheLimits(t *testing.T) {
	x := pair("((..).)>(.(..))")
	gives(t, "ImageOfAddress of 10 letters", "000000000")(impl.ImageOfAddress(x, "0000000000"))
	gives(t, "ImageOfAddress of 10 letters", "1011111111")(impl.ImageOfAddress(x, "0111111111"))
	gives(t, "ImageOfAddress to 10 letters", "1100000000")(impl.ImageOfAddress(x, "100000000"))
	fails[string](t, "ImageOfAddress to 11 letters")(impl.ImageOfAddress(x, "1000000000"))
	fails[string](t, "ImageOfAddress of 11 letters")(impl.ImageOfAddress(x, "00000000000"))
	fails[string](t, "ImageOfAddress of the beginning of a leaf")(impl.ImageOfAddress(x, "0"))
	fails[string](t, "ImageOfAddress of the empty address")(impl.ImageOfAddress(x, ""))
	gives(t, "ImageOfAddress of the empty address", "")(impl.ImageOfAddress(impl.IdentityPair(), ""))
	gives(t, "ImageOfAddress for two leaves", "0101010101")(impl.ImageOfAddress(impl.IdentityPair(), "0101010101"))
	gives(t, "ImageOfAddress of a leaf", "11")(impl.ImageOfAddress(x, "1"))
}

func TestHalfOf(t *testing.T) {
	for _, x := range append(fractionsUpTo(64), fractions("1/1024 3/1024 1023/1024 1/512 511/512 1/256")...) {
		for _, y := range fractionsUpTo(1024) {
			want, fine := fractionFor((decimal(x) + decimal(y)) / 2)
			if got, ok := impl.HalfOf(x, y); got != want || ok != fine {
				t.Fatal("HalfOf", x, y, got, ok)
			}
		}
	}
	gives(t, "HalfOf 1 and 1", fraction(1, 1))(impl.HalfOf(fraction(1, 1), fraction(1, 1)))
	gives(t, "HalfOf 0 and 0", fraction(0, 1))(impl.HalfOf(fraction(0, 1), fraction(0, 1)))
	gives(t, "HalfOf 1/1024 and 3/1024", fraction(1, 512))(impl.HalfOf(fraction(1, 1024), fraction(3, 1024)))
	fails[impl.Fraction](t, "HalfOf 0 and 1/1024")(impl.HalfOf(fraction(0, 1), fraction(1, 1024)))
	fails[impl.Fraction](t, "HalfOf 1 and 1023/1024")(impl.HalfOf(fraction(1, 1), fraction(1023, 1024)))
}

// TestSlopesHaveAWholePower keeps the model honest: slopes by values are powers of 2.
func TestSlopesHaveAWholePower(t *testing.T) {
	for _, p := range deepPairs() {
		for _, x := range fractionsUpTo(256) {
			if _, right := rulesOf(p).slopesBeside(decimal(x)); right != math.Floor(right) && x != fraction(1, 1) {
				t.Error("slope", p, x, right)
			}
		}
	}
}

func TestExampleOfMaps(t *testing.T) {
	x, _ := impl.GeneratorPair(0)
	gives(t, "ValueOf 1/4", fraction(1, 2))(impl.ValueOf(x, fraction(1, 4)))
	gives(t, "ValueOf 1/2", fraction(3, 4))(impl.ValueOf(x, fraction(1, 2)))
	gives(t, "ValueOf 1/8", fraction(1, 4))(impl.ValueOf(x, fraction(1, 8)))
	gives(t, "SlopesOf", []int{1, 0, -1})(impl.SlopesOf(x))
	gives(t, "BreaksOf", fractions("1/4 1/2"))(impl.BreaksOf(x))
	gives(t, "BreakValues", fractions("1/2 3/4"))(impl.BreakValues(x))
	gives(t, "GraphText", "1/4>1/2,1/2>3/4")(impl.GraphText(x))
	gives(t, "ImageOfAddress", "100")(impl.ImageOfAddress(x, "010"))
	gives(t, "FixedFractions", fractions("0/1 1/1"))(impl.FixedFractions(x))
	gives(t, "SlopeAt 1/4", 0)(impl.SlopeAt(x, fraction(1, 4)))
	gives(t, "SlopeAt 1", -1)(impl.SlopeAt(x, fraction(1, 1)))
	gives(t, "SlopeAt 0", 1)(impl.SlopeAt(x, fraction(0, 1)))
}
