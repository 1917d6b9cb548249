package tests

import (
	"fmt"
	"slices"
	"strings"
	"testing"

	"loop.example/g01161/impl"
)

// Promise 9: a conjugator that is found makes the conjugate, and a pair has at most one root.

func TestLimitsOfConjugates(t *testing.T) {
	if impl.MaxConjugating != 4 || impl.MaxRooted != 3 {
		t.Error("limits", impl.MaxConjugating, impl.MaxRooted)
	}
}

// TestExampleOfConjugates has the example of the chapter.
func TestExampleOfConjugates(t *testing.T) {
	x, y, z := generator(0).pair(), generator(1).pair(), generator(2).pair()
	gives(t, "ShiftPair x(0)", y)(impl.ShiftPair(x))
	gives(t, "ConjugatePair x(1) by x(0)", z)(impl.ConjugatePair(y, x))
	half := pair("(((..).).)>((.(..)).)")
	gives(t, "HalvesPair x(0) and two leaves", half)(impl.HalvesPair(x, impl.IdentityPair()))
	gives(t, "HalvesPair carries 1/8", fraction(1, 4))(impl.ValueOf(half, fraction(1, 8)))
	square, _ := impl.PowerPair(x, 2)
	gives(t, "RootsOf the power 2 of x(0)", []impl.Pair{x})(impl.RootsOf(square, 2))
}

// widePairs are pairs of 8 carets with conjugates that have more.
func widePairs() []impl.Pair {
	var list []impl.Pair
	for _, text := range []string{
		overTheLimit, wideLeast, "(((((((..).).).).).)(..))>((.(..))((.(((..).).)).))", "((((..)(.((.(..)).))).).)>((.(.(..)))(.(.((..).))))",
		"((.(.(..)))((.(.(..))).))>(((..)(.(..)))((..)(..)))", left(8) + ">" + right(8), right(8) + ">(((..)(..))((..)((..).)))",
	} {
		list = append(list, pair(text))
	}
	return append(list, somePairs(8, 8)...)
}

// conjugated are pairs of all kinds, whether reduced or not, but so few that all words can be tried for each.
func conjugated() []impl.Pair {
	list := append(pairsUpTo(2), reducedUpTo(3)...)
	list = append(list, somePairs(4, 6)...)
	for k := range 7 {
		list = append(list, generator(k).pair())
	}
	return append(list, widePairs()...)
}

const (
	// overTheLimit has a conjugate by x1.x0'.x0' with 7 carets, on whose way is one with 9.
	overTheLimit = "(((((((..).)(..)).).).).)>(.((..)((..)(.(.(..))))))"
	// wideLeast has its least conjugate by 2 letters behind one with 9 carets.
	wideLeast = "(.((.(.((..).)))((..).)))>(((.(.(((..).).))).)(..))"
)

// expanded returns pairs that do the same with one caret more, if there may be one.
func expanded(p impl.Pair) []impl.Pair {
	var list []impl.Pair
	for leaf := range strings.Count(p.From, ".") {
		if q, ok := impl.ExpandPair(p, leaf); ok {
			list = append(list, q)
		}
	}
	return list
}

// TestConjugatesByHand has conjugates that are known: those of generators by others, and by pairs that do nothing.
func TestConjugatesByHand(t *testing.T) {
	for k := range 7 {
		for n := k + 1; n < 6; n++ {
			gives(t, fmt.Sprint("ConjugatePair x", n, " by x", k), generator(n+1).pair())(impl.ConjugatePair(generator(n).pair(), generator(k).pair()))
			gives(t, fmt.Sprint("ConjugatePair x", n+1, " by the inverse of x", k), generator(n).pair())(impl.ConjugatePair(generator(n+1).pair(), generator(k).inverse().pair()))
		}
		if k < 6 {
			fails[impl.Pair](t, fmt.Sprint("ConjugatePair x6 by x", k))(impl.ConjugatePair(generator(6).pair(), generator(k).pair()))
		}
	}
	for _, p := range conjugated() {
		call := fmt.Sprint(" ", p)
		reduced := rulesOf(p).reduced().pair()
		for _, tree := range []string{".", "(..)", "((.(..)).)", right(8), left(8)} {
			none := impl.Pair{From: tree, To: tree}
			gives(t, "ConjugatePair"+call+" by twice "+tree, reduced)(impl.ConjugatePair(p, none))
			gives(t, "ConjugatePair twice "+tree+" by"+call, pair(".>."))(impl.ConjugatePair(none, p))
		}
		// Products on the way have too many carets, if p has many.
		gives(t, "ConjugatePair by itself"+call, reduced)(impl.ConjugatePair(p, p))
		gives(t, "ConjugatePair by its inverse"+call, reduced)(impl.ConjugatePair(p, impl.Pair{From: p.To, To: p.From}))
	}
}

func TestConjugates(t *testing.T) {
	beyond, many := 0, 0
	for _, p := range conjugated() {
		r := rulesOf(p)
		for _, q := range slices.Concat(reducedUpTo(3), pairsWith(2), deadEnds(), somePairs(5, 3), somePairs(8, 6)) {
			call := fmt.Sprint("ConjugatePair ", p, q)
			s := rulesOf(q)
			want := r.conjugate(s)
			got, ok := impl.ConjugatePair(p, q)
			expects(t, call, want)(got, ok)
			switch len(want) {
			case impl.MaxCarets + 2:
				beyond++
			case impl.MaxCarets + 1:
				many++
			}
			if ok {
				gives(t, call+" and back", r.reduced().pair())(impl.ConjugatePair(got, impl.Pair{From: q.To, To: q.From}))
			}
		}
	}
	if beyond < 20 || many < 20 {
		t.Error("conjugates of 8 and of 9 carets:", many, beyond)
	}
}

// TestConjugatorsByHand has words that are found, the first one of several, the longest ones, and those that do not exist.
func TestConjugatorsByHand(t *testing.T) {
	x := func(i int) string { p := generator(i).pair(); return p.From + ">" + p.To }
	for _, c := range []struct {
		from, to, want string
	}{
		{".>.", ".>.", "1"}, {"(..)>(..)", "(.(..))>(.(..))", "1"}, {x(0), x(0), "1"}, {x(5), x(5), "1"},
		{x(1), x(2), "x0"}, {x(2), x(1), "x0'"}, {x(1), x(3), "x0.x0"}, {x(2), x(3), "x0"}, {x(1), x(5), "x0.x0.x0.x0"}, {x(5), x(1), "x0'.x0'.x0'.x0'"}, {x(6), x(4), "x0'.x0'"},
		{"((.(..)).)>(.(.(..)))", "((..)((..).))>(.(.(.(..))))", "x0"}, {"((..)(..))>(.((..).))", "((..)(.(..)))>(.(.((..).)))", "x0"},
		{"((.(..)).)>(.(.(..)))", "((..)(((..).).))>(.((..)(.(..))))", "x0.x1'"}, {"((.(..)).)>(.(.(..)))", "(((..)((..).)).)>((.(..))(.(..)))", "x0.x1'.x0'"},
		{"(((..).).)>((.(..)).)", "((..)(.(..)))>(.(.((..).)))", "x0.x0"}, {"(((..).).)>((.(..)).)", "((.(..))(.(.(..))))>(.(.(.(((..).).))))", "x0.x0.x1"},
		{overTheLimit, "(((((((..).).).).).).)>(.(.(.(.(.((..).))))))", "x1.x0'.x0'"},
	} {
		w := word(c.want)
		for most := range 5 {
			call := fmt.Sprint(" ", c.from, " ", c.to, " ", most)
			gives(t, "AreConjugateWithin"+call, most >= len(w))(impl.AreConjugateWithin(pair(c.from), pair(c.to), most))
			if most < len(w) {
				fails[[]int](t, "FindConjugator"+call)(impl.FindConjugator(pair(c.from), pair(c.to), most))
			} else {
				gives(t, "FindConjugator"+call, w)(impl.FindConjugator(pair(c.from), pair(c.to), most))
			}
		}
	}
	for _, c := range [][2]string{
		{".>.", x(0)}, {x(0), ".>."}, {x(0), x(1)}, {x(0), "(.(..))>((..).)"}, {x(1), x(6)}, {x(6), x(1)}, {x(1), "(.(.(..)))>(.((..).))"}, {left(8) + ">" + right(8), right(8) + ">" + left(8)},
	} {
		for most := range 5 {
			fails[[]int](t, fmt.Sprint("FindConjugator ", c, most))(impl.FindConjugator(pair(c[0]), pair(c[1]), most))
			gives(t, fmt.Sprint("AreConjugateWithin ", c, most), false)(impl.AreConjugateWithin(pair(c[0]), pair(c[1]), most))
		}
	}
}

// TestConjugators holds both searches against all words, for conjugates and for other pairs.
func TestConjugators(t *testing.T) {
	for k, p := range conjugated() {
		r := rulesOf(p)
		known := r.conjugators()
		for q, w := range known {
			if len(q.From) > len(right(impl.MaxCarets)) {
				continue
			}
			call := fmt.Sprint(" ", p, q)
			got, ok := impl.FindConjugator(p, q, impl.MaxConjugating)
			gives(t, "FindConjugator"+call, w)(got, ok)
			by, _ := impl.PairOfWord(got)
			gives(t, "ConjugatePair by the word of FindConjugator"+call, q)(impl.ConjugatePair(p, by))
			gives(t, "AreConjugateWithin"+call, true)(impl.AreConjugateWithin(p, q, impl.MaxConjugating))
			if len(w) > 0 {
				fails[[]int](t, "FindConjugator with too few letters"+call)(impl.FindConjugator(p, q, len(w)-1))
				gives(t, "AreConjugateWithin with too few letters"+call, false)(impl.AreConjugateWithin(p, q, len(w)-1))
			}
		}
		for _, q := range conjugated()[k/2 : k/2+12] {
			_, want := known[rulesOf(q).reduced().pair()]
			if got, ok := impl.FindConjugator(p, q, impl.MaxConjugating); ok != want {
				t.Error("FindConjugator", p, q, got, ok)
			}
			gives(t, fmt.Sprint("AreConjugateWithin ", p, q), want)(impl.AreConjugateWithin(p, q, impl.MaxConjugating))
		}
	}
}

// TestConjugatorsOfPairsThatAreNotReduced finds the same words for pairs with carets that do nothing.
func TestConjugatorsOfPairsThatAreNotReduced(t *testing.T) {
	p, q := generator(1).pair(), generator(3).pair()
	for _, a := range append(expanded(p), p) {
		for _, b := range append(expanded(q), q) {
			gives(t, fmt.Sprint("FindConjugator ", a, b), []int{1, 1})(impl.FindConjugator(a, b, 2))
			gives(t, fmt.Sprint("AreConjugateWithin ", a, b), true)(impl.AreConjugateWithin(a, b, 2))
			gives(t, fmt.Sprint("AreConjugateWithin the other way ", a, b), false)(impl.AreConjugateWithin(b, a, 1))
		}
		gives[[]int](t, fmt.Sprint("FindConjugator of itself ", a), nil)(impl.FindConjugator(a, p, 0))
		gives(t, fmt.Sprint("LeastConjugate ", a), p)(impl.LeastConjugate(a, 0))
	}
}

func TestMostLettersOfConjugators(t *testing.T) {
	x := generator(0).pair()
	for _, most := range []int{least, -1 << 32, -2, -1, 5, 6, 1 << 32, greatest} {
		call := fmt.Sprint(" ", most)
		for _, p := range []impl.Pair{x, generator(1).pair(), impl.IdentityPair()} {
			fails[[]int](t, "FindConjugator"+call)(impl.FindConjugator(p, p, most))
			fails[[]int](t, "FindConjugator x(0)"+call)(impl.FindConjugator(p, x, most))
			fails[bool](t, "AreConjugateWithin"+call)(impl.AreConjugateWithin(p, p, most))
			fails[bool](t, "AreConjugateWithin x(0)"+call)(impl.AreConjugateWithin(p, x, most))
			fails[impl.Pair](t, "LeastConjugate"+call)(impl.LeastConjugate(p, most))
		}
	}
	for most := range 5 {
		gives[[]int](t, fmt.Sprint("FindConjugator ", most), nil)(impl.FindConjugator(x, x, most))
		gives(t, fmt.Sprint("AreConjugateWithin ", most), true)(impl.AreConjugateWithin(x, x, most))
		gives(t, fmt.Sprint("LeastConjugate ", most), x)(impl.LeastConjugate(x, most))
	}
}

func TestShiftedPairs(t *testing.T) {
	gives(t, "ShiftPair twice a leaf", pair(".>."))(impl.ShiftPair(pair(".>.")))
	gives(t, "ShiftPair of a pair that does nothing", pair(".>."))(impl.ShiftPair(pair(right(8) + ">" + right(8))))
	for i := range 6 {
		gives(t, fmt.Sprint("ShiftPair x", i), generator(i+1).pair())(impl.ShiftPair(generator(i).pair()))
	}
	fails[impl.Pair](t, "ShiftPair x6")(impl.ShiftPair(generator(6).pair()))
	for _, p := range append(somePairsOfAll(), conjugated()...) {
		call := fmt.Sprint("ShiftPair ", p)
		r := rulesOf(p)
		got, ok := impl.ShiftPair(p)
		expects(t, call, halvesOf(identity(), r))(got, ok)
		if !ok {
			continue
		}
		gives(t, "the word of "+call, rulesOfWord(raisedLetters(r.reduced().normal())).normal())(impl.WordOfPair(got))
		w, _ := impl.WordOfPair(p)
		shifted, _ := impl.ShiftWord(w, 1)
		gives(t, "the word of "+call, shifted)(impl.WordOfPair(got))
		again, ok := impl.ShiftPair(got)
		if next, fine := impl.ConjugatePair(got, generator(0).pair()); next != again || ok != fine {
			t.Error("the conjugate by x(0) of", call, next, fine, again, ok)
		}
	}
}

// raisedLetters returns the word in which each x(i) is x(i + 1).
func raisedLetters(w []int) []int {
	var list []int
	for _, letter := range w {
		if letter > 0 {
			list = append(list, letter+1)
		} else {
			list = append(list, letter-1)
		}
	}
	return list
}

// TestShiftedPairsOfManyCarets has 8 carets and one more, once reduced.
func TestShiftedPairsOfManyCarets(t *testing.T) {
	p := pair(left(7) + ">" + right(7))
	want := pair("(." + left(7) + ")>" + right(8))
	gives(t, "ShiftPair of 7 carets", want)(impl.ShiftPair(p))
	for _, q := range expanded(p) {
		gives(t, fmt.Sprint("ShiftPair of 8 carets that reduce to 7 ", q), want)(impl.ShiftPair(q))
		gives(t, fmt.Sprint("HalvesPair of 8 carets that reduce to 7 ", q), want)(impl.HalvesPair(pair(left(8)+">"+left(8)), q))
	}
	fails[impl.Pair](t, "ShiftPair of 8 carets")(impl.ShiftPair(pair(left(8) + ">" + right(8))))
}

func TestHalvesByHand(t *testing.T) {
	for _, c := range [][3]string{
		{".>.", ".>.", ".>."}, {"(..)>(..)", ".>.", ".>."}, {right(8) + ">" + right(8), left(8) + ">" + left(8), ".>."},
		{"((..).)>(.(..))", ".>.", "(((..).).)>((.(..)).)"}, {".>.", "((..).)>(.(..))", "(.((..).))>(.(.(..)))"}, {"((..).)>(.(..))", "(..)>(..)", "(((..).).)>((.(..)).)"},
		{"((..).)>(.(..))", "((..).)>(.(..))", "(((..).)((..).))>((.(..))(.(..)))"}, {"((..).)>(.(..))", "(.(..))>((..).)", "(((..).)(.(..)))>((.(..))((..).))"},
		{"(((..).)(..))>((.(..))(..))", "((..).)>((..).)", "((((..).).).)>(((.(..)).).)"},
	} {
		gives(t, "HalvesPair "+c[0]+" "+c[1], pair(c[2]))(impl.HalvesPair(pair(c[0]), pair(c[1])))
	}
	for a := range 9 {
		for b := range 9 {
			p, q := pair(left(a)+">"+right(a)), pair(left(b)+">"+right(b))
			expects(t, fmt.Sprint("HalvesPair of combs ", a, b), halvesOf(rulesOf(p), rulesOf(q)))(impl.HalvesPair(p, q))
			if _, ok := impl.HalvesPair(p, q); a > 1 && b > 1 && ok != (a+b+1 <= 8) {
				t.Error("HalvesPair of combs", a, b, ok)
			}
		}
	}
}

func TestHalves(t *testing.T) {
	none := impl.IdentityPair()
	for _, p := range conjugated() {
		for _, q := range slices.Concat(reducedUpTo(3), pairsWith(1), pairsWith(2), somePairs(4, 4), somePairs(8, 2)) {
			call := fmt.Sprint(" ", p, q)
			want := halvesOf(rulesOf(p), rulesOf(q))
			got, ok := impl.HalvesPair(p, q)
			expects(t, "HalvesPair"+call, want)(got, ok)
			if !ok {
				continue
			}
			first, _ := impl.HalvesPair(p, none)
			second, _ := impl.HalvesPair(none, q)
			gives(t, "the product of both halves"+call, got)(impl.ProductPair(first, second))
			gives(t, "the product of both halves, the other way"+call, got)(impl.ProductPair(second, first))
			a, b, ok := impl.SplitHalves(got)
			if !ok || a != rulesOf(p).reduced().pair() || b != rulesOf(q).reduced().pair() {
				t.Error("SplitHalves of HalvesPair", call, a, b, ok)
			}
		}
	}
}

func TestSplitHalves(t *testing.T) {
	moved := 0
	for _, p := range slices.Concat(pairsUpTo(4), conjugated(), orbitPairs(), deepPairs()) {
		r := rulesOf(p)
		first, second, ok := impl.SplitHalves(p)
		if stays := r.value(0.5) == 0.5; ok != stays {
			t.Error("SplitHalves", p, first, second, ok)
		}
		if !ok {
			moved++
			if first != (impl.Pair{}) || second != (impl.Pair{}) {
				t.Error("SplitHalves", p, "fails with", first, second)
			}
			continue
		}
		left, _ := r.half("0")
		right, _ := r.half("1")
		if first != left.reduced().pair() || second != right.reduced().pair() {
			t.Error("SplitHalves", p, first, second)
		}
		gives(t, fmt.Sprint("HalvesPair of SplitHalves ", p), r.reduced().pair())(impl.HalvesPair(first, second))
	}
	if moved < 100 {
		t.Error("pairs that carry 1/2 to another number:", moved)
	}
	for text, want := range map[string][2]string{
		".>.": {".>.", ".>."}, "(..)>(..)": {".>.", ".>."}, right(8) + ">" + right(8): {".>.", ".>."}, "(((..).).)>((.(..)).)": {"((..).)>(.(..))", ".>."},
		"(.((..).))>(.(.(..)))": {".>.", "((..).)>(.(..))"}, "((((..).)(..))(..))>(((.(..))(..))(..))": {"(((..).).)>((.(..)).)", ".>."},
	} {
		first, second, ok := impl.SplitHalves(pair(text))
		if !ok || first != pair(want[0]) || second != pair(want[1]) {
			t.Error("SplitHalves", text, first, second, ok)
		}
	}
	for _, text := range []string{"((..).)>(.(..))", "(.(..))>((..).)", "((..)(..))>(.(.(..)))", left(8) + ">" + right(8), "((..)(.(..)))>((.(..))(..))"} {
		if first, second, ok := impl.SplitHalves(pair(text)); ok || first != (impl.Pair{}) || second != (impl.Pair{}) {
			t.Error("SplitHalves", text, first, second, ok)
		}
	}
}

func TestSumsOfPairs(t *testing.T) {
	for text, want := range map[string][2]int{
		".>.": {0, 0}, "(..)>(..)": {0, 0}, "((..).)>(.(..))": {1, 0}, "(.(..))>((..).)": {-1, 0}, "(.((..).))>(.(.(..)))": {0, 1},
		"(((..).).)>(.(.(..)))": {2, 0}, "(((..).).)>((.(..)).)": {1, -1}, left(8) + ">" + right(8): {7, 0}, right(8) + ">" + left(8): {-7, 0},
	} {
		gives(t, "SumsOfPair "+text, want)(both(impl.SumsOfPair(pair(text))))
	}
	for _, p := range somePairsOfAll() {
		call := fmt.Sprint("SumsOfPair ", p)
		got, ok := both(impl.SumsOfPair(p))
		want, _ := sums(rulesOf(p).reduced().normal())
		gives(t, call, want)(got, ok)
		for _, q := range expanded(p)[:min(3, len(expanded(p)))] {
			gives(t, call+" expanded", got)(both(impl.SumsOfPair(q)))
		}
		for _, q := range append(reducedUpTo(3), somePairs(8, 2)...) {
			more, _ := both(impl.SumsOfPair(q))
			if product, ok := impl.ProductPair(p, q); ok {
				gives(t, fmt.Sprint(call, " and ", q), [2]int{got[0] + more[0], got[1] + more[1]})(both(impl.SumsOfPair(product)))
			}
			if conjugate, ok := impl.ConjugatePair(p, q); ok {
				gives(t, fmt.Sprint(call, " by ", q), got)(both(impl.SumsOfPair(conjugate)))
			}
		}
	}
}

func TestSmallPairs(t *testing.T) {
	all := strings.Fields(`.>. ((..).)>(.(..)) (.(..))>((..).)
		(((..).).)>((.(..)).) (((..).).)>(.((..).)) (((..).).)>(.(.(..))) ((.(..)).)>(((..).).) ((.(..)).)>((..)(..)) ((.(..)).)>(.(.(..)))
		((..)(..))>((.(..)).) ((..)(..))>(.((..).)) (.((..).))>(((..).).) (.((..).))>((..)(..)) (.((..).))>(.(.(..)))
		(.(.(..)))>(((..).).) (.(.(..)))>((.(..)).) (.(.(..)))>(.((..).))`)
	for n, count := range []int{1, 1, 3, 17} {
		var want []impl.Pair
		for _, text := range all[:count] {
			want = append(want, pair(text))
		}
		call := fmt.Sprint("SmallPairs ", n)
		gives(t, call, want)(impl.SmallPairs(n))
		gives(t, call, smallOnes(n, func(rules) bool { return true }))(impl.SmallPairs(n))
		for _, p := range want {
			gives(t, fmt.Sprint("IsReduced ", p), true)(impl.IsReduced(p))
		}
	}
	for _, n := range []int{least, -1 << 32, -1, 4, 5, 1 << 32, greatest} {
		fails[[]impl.Pair](t, fmt.Sprint("SmallPairs ", n))(impl.SmallPairs(n))
	}
}

// TestRoots takes the roots of powers, of pairs that are none, and of such that are not reduced.
func TestRoots(t *testing.T) {
	for k := 2; k <= 4; k++ {
		of := map[impl.Pair]impl.Pair{}
		for _, p := range reducedUpTo(3) {
			power := rulesOf(p).power(k).pair()
			if other, has := of[power]; has {
				t.Error("two roots", other, p, k)
			}
			of[power] = p
			if len(power.From) > len(right(impl.MaxCarets)) {
				continue
			}
			for _, q := range append(expanded(power), power) {
				gives(t, fmt.Sprint("RootsOf ", q, k), []impl.Pair{p})(impl.RootsOf(q, k))
			}
		}
		if len(of) != 17 {
			t.Error("powers", k, len(of))
		}
		for _, p := range slices.Concat(pairsUpTo(4), conjugated(), somePairs(5, 20)) {
			got, ok := impl.RootsOf(p, k)
			var want []impl.Pair
			if root, has := of[rulesOf(p).reduced().pair()]; has {
				want = []impl.Pair{root}
			}
			gives(t, fmt.Sprint("RootsOf ", p, k), want)(got, ok)
		}
	}
	for _, p := range []impl.Pair{pair(".>."), pair("(((..).).)>(((..).).)"), pair(right(8) + ">" + right(8))} {
		for k := 2; k <= 4; k++ {
			gives(t, fmt.Sprint("RootsOf a pair that does nothing ", p, k), []impl.Pair{pair(".>.")})(impl.RootsOf(p, k))
			gives[[]impl.Pair](t, fmt.Sprint("RootsOf x(0) ", k), nil)(impl.RootsOf(generator(0).pair(), k))
		}
	}
	square := pair("(((..).).)>(.(.(..)))")
	gives(t, "RootsOf the square of x(0)", []impl.Pair{generator(0).pair()})(impl.RootsOf(square, 2))
	gives[[]impl.Pair](t, "RootsOf the square of x(0), 4", nil)(impl.RootsOf(square, 4))
	gives(t, "RootsOf the power 4 of x(0), 2", []impl.Pair{square})(impl.RootsOf(pair(left(5)+">"+right(5)), 2))
	for _, k := range []int{least, -2, -1, 0, 1, 5, 6, 1<<32 + 2, greatest} {
		for _, p := range []impl.Pair{square, generator(0).pair(), impl.IdentityPair()} {
			fails[[]impl.Pair](t, fmt.Sprint("RootsOf ", p, k))(impl.RootsOf(p, k))
		}
	}
}

// TestRootsByModel holds some roots against powers that the model makes of all small pairs.
func TestRootsByModel(t *testing.T) {
	for k := 2; k <= 4; k++ {
		for _, p := range append(reducedUpTo(3), somePairs(4, 10)...) {
			gives(t, fmt.Sprint("RootsOf ", p, k), rulesOf(p).rootsOf(k))(impl.RootsOf(p, k))
		}
	}
}

func TestCommuting(t *testing.T) {
	wide := 0
	for _, p := range slices.Concat(pairsUpTo(3), conjugated(), orbitPairs()[:60]) {
		r := rulesOf(p)
		all := r.commuting(3)
		for n := range 4 {
			want := slices.DeleteFunc(slices.Clone(all), func(q impl.Pair) bool { return strings.Count(q.From, "(") > n })
			gives(t, fmt.Sprint("CommutingWith ", p, n), want)(impl.CommutingWith(p, n))
		}
		for _, q := range all {
			if len(r.then(rulesOf(q))) > impl.MaxCarets+1 {
				wide++
			}
		}
	}
	for _, n := range []int{least, -1 << 32, -1, 4, 5, 1 << 32, greatest} {
		fails[[]impl.Pair](t, fmt.Sprint("CommutingWith ", n))(impl.CommutingWith(impl.IdentityPair(), n))
		fails[[]impl.Pair](t, fmt.Sprint("CommutingWith x(0) ", n))(impl.CommutingWith(generator(0).pair(), n))
	}
	if wide == 0 {
		t.Error("no products with more than 8 carets")
	}
}

// TestCommutingByHand has pairs that commute with all, with powers alone, and with all on the other half: also where products have too many carets.
func TestCommutingByHand(t *testing.T) {
	small := smallOnes(3, func(rules) bool { return true })
	gives(t, "CommutingWith a pair that does nothing", small)(impl.CommutingWith(pair("(..)>(..)"), 3))
	x := []impl.Pair{pair(".>."), pair("((..).)>(.(..))"), pair("(.(..))>((..).)"), pair("(((..).).)>(.(.(..)))"), pair("(.(.(..)))>(((..).).)")}
	gives(t, "CommutingWith x(0)", x)(impl.CommutingWith(generator(0).pair(), 3))
	gives(t, "CommutingWith x(0) of 2 carets", x[:3])(impl.CommutingWith(generator(0).pair(), 2))
	gives(t, "CommutingWith x(0) of none", x[:1])(impl.CommutingWith(generator(0).pair(), 0))
	halves := []impl.Pair{pair(".>."), pair("(((..).).)>((.(..)).)"), pair("((.(..)).)>(((..).).)"), pair("(.((..).))>(.(.(..)))"), pair("(.(.(..)))>(.((..).))")}
	for n := 2; n <= 7; n++ {
		p := pair("(" + left(n) + ".)>(" + right(n) + ".)")
		gives(t, fmt.Sprint("CommutingWith a power on the left half with carets: ", n+1), halves)(impl.CommutingWith(p, 3))
	}
}

func TestConjugatesByWords(t *testing.T) {
	x := generator(1).pair()
	for text, want := range map[string]int{"1": 1, "x0": 2, "x0.x0": 3, "x0'.x0": 1, "x0.x0.x0.x0.x0": 6, "x0.x0.x0.x0.x0.x0'": 5, "x1": 1, "x1'.x1'.x1.x0.x0.x0'": 2} {
		gives(t, "ConjugateByWord x1 "+text, generator(want).pair())(impl.ConjugateByWord(x, word(text)))
	}
	fails[impl.Pair](t, "ConjugateByWord x1 by six x0")(impl.ConjugateByWord(x, slices.Repeat([]int{1}, 6)))
	gives(t, "ConjugateByWord x6 by nothing", generator(6).pair())(impl.ConjugateByWord(generator(6).pair(), nil))
	fails[impl.Pair](t, "ConjugateByWord x6 by x0 and back")(impl.ConjugateByWord(generator(6).pair(), []int{1, -1}))
	gives(t, "ConjugateByWord x6 back and by x0", generator(6).pair())(impl.ConjugateByWord(generator(6).pair(), []int{-1, 1}))
	// The pair of this word does make a conjugate with few carets.
	fails[impl.Pair](t, "ConjugateByWord over the limit")(impl.ConjugateByWord(pair(overTheLimit), []int{2, -1, -1}))
	by, _ := impl.PairOfWord([]int{2, -1, -1})
	gives(t, "ConjugatePair over the limit", pair("(((((((..).).).).).).)>(.(.(.(.(.((..).))))))"))(impl.ConjugatePair(pair(overTheLimit), by))
}

// TestConjugatesByAllWords checks each conjugate on the way, too: the first one with more than 8 carets makes the call fail.
func TestConjugatesByAllWords(t *testing.T) {
	words := wordsUpTo(3, letters(1))
	for length := 4; length <= 6; length++ {
		words = append(words, someWords(length, 1, 25)...)
	}
	turned := 0
	for _, p := range conjugated() {
		for _, w := range words {
			r := rulesOf(p).reduced()
			fits := true
			for _, letter := range w {
				r = r.conjugate(rulesOfWord([]int{letter}))
				fits = fits && len(r) <= impl.MaxCarets+1
			}
			call := fmt.Sprint("ConjugateByWord ", p, w)
			if !fits {
				fails[impl.Pair](t, call)(impl.ConjugateByWord(p, w))
				if len(r) <= impl.MaxCarets+1 {
					turned++
				}
				continue
			}
			gives(t, call, r.pair())(impl.ConjugateByWord(p, w))
		}
	}
	if turned < 20 {
		t.Error("words with too many carets on the way alone:", turned)
	}
}

func TestLettersOfConjugatingWords(t *testing.T) {
	x := generator(0).pair()
	for n := range 24 {
		call := fmt.Sprint("ConjugateByWord, letters: ", n)
		if n <= 6 {
			gives(t, call, x)(impl.ConjugateByWord(x, slices.Repeat([]int{1}, n)))
			gives(t, call, pair(".>."))(impl.ConjugateByWord(pair(".>."), slices.Repeat([]int{-2}, n)))
		} else {
			fails[impl.Pair](t, call)(impl.ConjugateByWord(x, slices.Repeat([]int{1}, n)))
			fails[impl.Pair](t, call)(impl.ConjugateByWord(pair(".>."), slices.Repeat([]int{-2}, n)))
		}
	}
	for _, letter := range []int{3, -3, 4, -7, 7, 8, 21, -21} {
		for _, w := range [][]int{{letter}, {1, letter}, {letter, -letter}, {2, letter, 1, -1, 1, 2}} {
			fails[impl.Pair](t, fmt.Sprint("ConjugateByWord ", w))(impl.ConjugateByWord(x, w))
			fails[impl.Pair](t, fmt.Sprint("ConjugateByWord of nothing ", w))(impl.ConjugateByWord(impl.IdentityPair(), w))
		}
	}
}

func TestLeastConjugates(t *testing.T) {
	for _, c := range []struct {
		text string
		most int
		want string
	}{
		{".>.", 4, ".>."}, {"(..)>(..)", 0, ".>."}, {right(8) + ">" + right(8), 4, ".>."}, {"((..).)>(.(..))", 4, "((..).)>(.(..))"},
		{"(.(.(.(.(.(.((..).)))))))>" + right(8), 0, "(.(.(.(.(.(.((..).)))))))>" + right(8)}, {"(.(.(.(.(.(.((..).)))))))>" + right(8), 1, "(.(.(.(.(.((..).))))))>" + right(7)},
		{"(.(.(.(.(.(.((..).)))))))>" + right(8), 4, "(.(.((..).)))>" + right(4)},
		{"(.((..).))>(.(.(..)))", 0, "(.((..).))>(.(.(..)))"}, {"(.((..).))>(.(.(..)))", 1, "((.(..)).)>((..)(..))"}, {"(.((..).))>(.(.(..)))", 4, "((.(..)).)>((..)(..))"},
		{wideLeast, 1, "((.(.(.((..).))))((..).))>((((.(.(((..).).))).).).)"}, {wideLeast, 2, "(.((.(.(.((..).)))).))>(((..)(.(((..).).))).)"},
	} {
		gives(t, fmt.Sprint("LeastConjugate ", c.text, c.most), pair(c.want))(impl.LeastConjugate(pair(c.text), c.most))
	}
	for _, p := range conjugated() {
		known := rulesOf(p).conjugators()
		for most := range 5 {
			call := fmt.Sprint("LeastConjugate ", p, most)
			got, ok := impl.LeastConjugate(p, most)
			gives(t, call, leastOf(known, most))(got, ok)
			gives(t, "AreConjugateWithin for "+call, true)(impl.AreConjugateWithin(p, got, most))
		}
	}
}
