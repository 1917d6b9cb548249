package tests

import (
	"fmt"
	"slices"
	"strings"
	"testing"

	"loop.example/g01161/impl"
)

// Promise 5: lengths by kinds of carets are those of spheres.

func TestMaxRadius(t *testing.T) {
	if impl.MaxRadius != 5 {
		t.Error("MaxRadius", impl.MaxRadius)
	}
}

func TestKindsOfCarets(t *testing.T) {
	for tree, want := range map[string]string{
		".":                         "",
		"(..)":                      "L0",
		"((..).)":                   "L0 LL",
		"(.(..))":                   "L0 R0",
		"((..)(..))":                "L0 LL R0",
		"((.(..)).)":                "L0 I0 LL",
		"(.((..).))":                "L0 I0 R0",
		"((.((..).)).)":             "L0 I0 I0 LL",
		"((.(.(..))).)":             "L0 IR I0 LL",
		"(.((.(..)).))":             "L0 IR I0 R0",
		"(.(.((..).)))":             "L0 RI I0 R0",
		"(.(.(.((..).))))":          "L0 RN RI I0 R0",
		"(.((..)((..).)))":          "L0 I0 RI I0 R0",
		"(.((..)(.(.((..).)))))":    "L0 I0 RN RN RI I0 R0",
		"(.(((.(..))(..))(..)))":    "L0 IR I0 IR I0 R0 R0",
		"(((..)((..).))(.((..).)))": "L0 LL I0 I0 LL RI I0 R0",
		left(8):                     "L0 LL LL LL LL LL LL LL",
		right(8):                    "L0 R0 R0 R0 R0 R0 R0 R0",
	} {
		gives(t, "CaretKinds "+tree, strings.Fields(want))(impl.CaretKinds(tree))
	}
	for _, tree := range append(treesUpTo(6), treesWith(8)...) {
		gives(t, "CaretKinds "+tree, modelOf(tree).kinds())(impl.CaretKinds(tree))
	}
}

func TestKindLengths(t *testing.T) {
	kinds := strings.Fields("L0 R0 RN RI LL I0 IR")
	others := strings.Split("|L|0|l0|r0|ll|L1|R1|RR|IN|RNI|LL0|0L|LR| LL|LL |R0 R0|R0\n|I0\x00|\xff|L0,L0|Rn|\u216c0", "|")
	others = append(others, strings.Repeat("R0", 1_000_000))
	for _, a := range kinds {
		for _, b := range kinds {
			call := "KindLength " + a + " " + b
			want, has := kindLengths()[a+" "+b]
			if !has {
				fails[int](t, call)(impl.KindLength(a, b))
				continue
			}
			gives(t, call, want)(impl.KindLength(a, b))
			gives(t, call+" the other way", want)(impl.KindLength(b, a))
		}
		for _, b := range others {
			fails[int](t, "KindLength "+a+" "+short(b))(impl.KindLength(a, b))
			fails[int](t, "KindLength "+short(b)+" "+a)(impl.KindLength(b, a))
			fails[int](t, "KindLength twice "+short(b))(impl.KindLength(b, b))
		}
	}
	gives(t, "KindLength L0 L0", 0)(impl.KindLength("L0", "L0"))
	fails[int](t, "KindLength L0 R0")(impl.KindLength("L0", "R0"))
	fails[int](t, "KindLength LL L0")(impl.KindLength("LL", "L0"))
}

// TestLengthsAreThoseOfSpheres holds lengths by kinds, and those by spheres, against what a search finds.
func TestLengthsAreThoseOfSpheres(t *testing.T) {
	for p, f := range searched() {
		call := fmt.Sprint(" ", p)
		gives(t, "LengthOf"+call, len(f.word))(impl.LengthOf(p))
		gives(t, "ShortestWord"+call, f.word)(impl.ShortestWord(p))
		if len(f.word) > 5 {
			fails[int](t, "LengthBySpheres"+call)(impl.LengthBySpheres(p, 5))
			continue
		}
		for most := range 6 {
			if most < len(f.word) {
				fails[int](t, fmt.Sprint("LengthBySpheres", call, most))(impl.LengthBySpheres(p, most))
			} else {
				gives(t, fmt.Sprint("LengthBySpheres", call, most), len(f.word))(impl.LengthBySpheres(p, most))
			}
		}
	}
}

// TestLengthsOfAllPairs has pairs that are not reduced, too, and such that are beyond all spheres.
func TestLengthsOfAllPairs(t *testing.T) {
	for _, p := range append(somePairsOfAll(), deadEnds()...) {
		call := fmt.Sprint(" ", p)
		length := rulesOf(p).length()
		gives(t, "LengthOf"+call, length)(impl.LengthOf(p))
		gives(t, "LengthOf the inverse of"+call, length)(impl.LengthOf(impl.Pair{From: p.To, To: p.From}))
		if got, ok := impl.LengthBySpheres(p, 5); ok != (length <= 5) || ok && got != length || !ok && got != 0 {
			t.Error("LengthBySpheres", p, got, ok)
		}
	}
}

// TestLongLengths searches for the lengths of some pairs that are beyond the spheres of the program.
func TestLongLengths(t *testing.T) {
	pairs := slices.Concat(deadEnds(), somePairs(5, 40), []impl.Pair{{From: left(7), To: right(7)}, {From: left(8), To: right(8)}})
	long := 0
	for _, p := range pairs {
		want, ok := searchedLength(rulesOf(p).reduced())
		if !ok {
			t.Error("no length is found for", p)
		}
		gives(t, fmt.Sprint("LengthOf ", p), want)(impl.LengthOf(p))
		if want > 6 {
			long++
		}
	}
	if long < 20 {
		t.Error("long lengths:", long)
	}
}

func TestPairsThatDoNothing(t *testing.T) {
	for _, tree := range []string{".", "(..)", "(.(..))", "((.((..).))(..))", left(8), right(8), "(((..)(..))((..)((..).)))"} {
		p := impl.Pair{From: tree, To: tree}
		gives(t, "LengthOf twice "+tree, 0)(impl.LengthOf(p))
		for most := range 6 {
			gives(t, "LengthBySpheres twice "+tree, 0)(impl.LengthBySpheres(p, most))
		}
		gives[[]int](t, "ShortestWord twice "+tree, nil)(impl.ShortestWord(p))
		gives(t, "NextLengths twice "+tree, []int{1, 1, 1, 1})(impl.NextLengths(p))
		gives(t, "IsDeadEnd twice "+tree, false)(impl.IsDeadEnd(p))
		gives(t, "DistanceOf twice "+tree, 0)(impl.DistanceOf(p, impl.IdentityPair()))
		if carets := strings.Count(tree, "("); carets <= 5 {
			gives(t, "CountShortest twice "+tree, 1)(impl.CountShortest(p))
		} else {
			fails[int](t, "CountShortest twice "+tree)(impl.CountShortest(p))
		}
	}
}

func TestLengthsOfPairsThatAreNotReduced(t *testing.T) {
	for _, p := range reducedUpTo(3) {
		length, _ := impl.LengthOf(p)
		w, _ := impl.ShortestWord(p)
		ways, _ := impl.CountShortest(p)
		next, _ := impl.NextLengths(p)
		for leaf := range strings.Count(p.From, ".") {
			q, _ := impl.ExpandPair(p, leaf)
			call := fmt.Sprint(" ", q)
			gives(t, "LengthOf"+call, length)(impl.LengthOf(q))
			gives(t, "LengthBySpheres"+call, length)(impl.LengthBySpheres(q, 5))
			gives(t, "ShortestWord"+call, w)(impl.ShortestWord(q))
			gives(t, "CountShortest"+call, ways)(impl.CountShortest(q))
			gives(t, "NextLengths"+call, next)(impl.NextLengths(q))
			gives(t, "IsDeadEnd"+call, false)(impl.IsDeadEnd(q))
			gives(t, "DistanceOf"+call, 0)(impl.DistanceOf(p, q))
		}
	}
}

func TestMostLettersOfSpheres(t *testing.T) {
	p := pair("(((..).).)>(.(.(..)))")
	for _, most := range []int{-1 << 63, -1, 0, 1, 6, 7, 1<<63 - 1} {
		fails[int](t, fmt.Sprint("LengthBySpheres of the length 2 with ", most))(impl.LengthBySpheres(p, most))
	}
	for _, most := range []int{2, 3, 4, 5} {
		gives(t, fmt.Sprint("LengthBySpheres of the length 2 with ", most), 2)(impl.LengthBySpheres(p, most))
	}
	for _, most := range []int{-1 << 63, -1, 6, 1<<63 - 1} {
		fails[int](t, fmt.Sprint("LengthBySpheres of two leaves with ", most))(impl.LengthBySpheres(impl.IdentityPair(), most))
	}
}

func TestSpheres(t *testing.T) {
	for r := range 6 {
		gives(t, fmt.Sprint("SphereSize ", r), len(searchedAt(r)))(impl.SphereSize(r))
	}
	for r := range 5 {
		list := searchedAt(r)
		gives(t, fmt.Sprint("SpherePairs ", r), list)(impl.SpherePairs(r))
		for _, p := range list {
			gives(t, fmt.Sprint("LengthOf ", p), r)(impl.LengthOf(p))
			gives(t, fmt.Sprint("IsReduced ", p), true)(impl.IsReduced(p))
		}
	}
	gives(t, "SpherePairs 0", []impl.Pair{pair(".>.")})(impl.SpherePairs(0))
	gives(t, "SpherePairs 1", []impl.Pair{
		pair("((..).)>(.(..))"), pair("(.((..).))>(.(.(..)))"), pair("(.(.(..)))>(.((..).))"), pair("(.(..))>((..).)"),
	})(impl.SpherePairs(1))
	for _, r := range []int{-1 << 63, -1, 6, 7, 100, 1<<63 - 1} {
		fails[int](t, fmt.Sprint("SphereSize ", r))(impl.SphereSize(r))
		fails[[]impl.Pair](t, fmt.Sprint("SpherePairs ", r))(impl.SpherePairs(r))
	}
	fails[[]impl.Pair](t, "SpherePairs 5")(impl.SpherePairs(5))
}

// TestShortestWordsOfAllPairs has pairs whose shortest words are too long to be words.
func TestShortestWordsOfAllPairs(t *testing.T) {
	counts := map[int]int{}
	for _, p := range append(somePairsOfAll(), deadEnds()...) {
		call := fmt.Sprint("ShortestWord ", p)
		r := rulesOf(p)
		length := r.length()
		counts[length]++
		if length > impl.MaxLetters {
			fails[[]int](t, call)(impl.ShortestWord(p))
			continue
		}
		w, ok := impl.ShortestWord(p)
		gives(t, call, r.firstWord())(w, ok)
		gives(t, "LengthOfWord of "+call, length)(impl.LengthOfWord(w))
		if rulesOfWord(w).pair() != r.reduced().pair() {
			t.Error(call, "stands for another pair:", w)
		}
	}
	long := impl.Pair{From: "((.(((.(..)).)((..).))).)", To: "((.(.((.(.(..)))(..)))).)"}
	gives(t, "the greatest length", 24)(impl.LengthOf(long))
	fails[[]int](t, "ShortestWord of 24 letters")(impl.ShortestWord(long))
	if counts[20] == 0 || counts[21]+counts[22] == 0 {
		t.Error("no pair has just as many letters, or more:", counts)
	}
}

func TestCountsOfShortestWords(t *testing.T) {
	for p, f := range searched() {
		call := fmt.Sprint("CountShortest ", p)
		if strings.Count(p.From, "(") > 5 {
			fails[int](t, call)(impl.CountShortest(p))
		} else {
			gives(t, call, f.ways)(impl.CountShortest(p))
		}
	}
	several := 0
	for _, p := range append(somePairs(5, 60), pair("(((((..).).).).)>(((.(..))(..)).)"), pair("((((..)(..)).).)>(.((..)((..).)))")) {
		want := rulesOf(p).ways()
		gives(t, fmt.Sprint("CountShortest ", p), want)(impl.CountShortest(p))
		if want > 1 {
			several++
		}
	}
	if several < 3 {
		t.Error("pairs with several shortest words:", several)
	}
	for n := 6; n <= 8; n++ {
		for _, p := range append(somePairs(n, 10), impl.Pair{From: left(n), To: right(n)}, impl.Pair{From: left(n), To: left(n)}) {
			fails[int](t, fmt.Sprint("CountShortest ", p))(impl.CountShortest(p))
		}
	}
	gives(t, "CountShortest of 5 carets", 1)(impl.CountShortest(impl.Pair{From: left(5), To: right(5)}))
}

// TestNextLengths has pairs of 8 carets whose products with letters have more.
func TestNextLengths(t *testing.T) {
	beyond := 0
	for _, p := range append(somePairsOfAll(), deadEnds()...) {
		call := fmt.Sprint(" ", p)
		r := rulesOf(p)
		want := r.nextLengths()
		gives(t, "NextLengths"+call, want)(impl.NextLengths(p))
		gives(t, "IsDeadEnd"+call, slices.Max(want) <= r.length())(impl.IsDeadEnd(p))
		for k, letter := range letters(1) {
			next := r.then(rulesOfWord([]int{letter}))
			if q, ok := next.fitting(); ok {
				gives(t, "LengthOf behind"+call, want[k])(impl.LengthOf(q))
			} else {
				beyond++
			}
		}
	}
	if beyond < 10 {
		t.Error("products with more carets:", beyond)
	}
	gives(t, "NextLengths of x(0)", []int{2, 0, 2, 2})(impl.NextLengths(pair("((..).)>(.(..))")))
	gives(t, "NextLengths of 8 carets", []int{8, 6, 8, 8})(impl.NextLengths(impl.Pair{From: left(8), To: right(8)}))
}

// TestLengthsChangeByOne checks, without the model, what makes a number for each pair its length: it is 0 for the identity alone,
// each letter changes it by 1, and some letter makes it less.
func TestLengthsChangeByOne(t *testing.T) {
	for _, p := range append(pairsUpTo(4), somePairs(8, 300)...) {
		length, ok := impl.LengthOf(p)
		next, fine := impl.NextLengths(p)
		nothing, _ := impl.AreSamePairs(p, impl.IdentityPair())
		if !ok || !fine || len(next) != 4 || (length == 0) != nothing || !nothing && slices.Min(next) != length-1 {
			t.Error("length of", p, length, next)
		}
		for _, n := range next {
			if n != length-1 && n != length+1 {
				t.Error("length behind", p, length, next)
			}
		}
	}
}

func TestDeadEnds(t *testing.T) {
	for _, p := range deadEnds() {
		call := fmt.Sprint(" ", p)
		gives(t, "LengthOf"+call, 11)(impl.LengthOf(p))
		gives(t, "NextLengths"+call, []int{10, 10, 10, 10})(impl.NextLengths(p))
		gives(t, "IsDeadEnd"+call, true)(impl.IsDeadEnd(p))
		back := impl.Pair{From: p.To, To: p.From}
		gives(t, "IsDeadEnd of the inverse of"+call, false)(impl.IsDeadEnd(back))
		for _, letter := range letters(1) {
			next := rulesOf(p).then(rulesOfWord([]int{letter}))
			if length, ok := searchedLength(next); !ok || length != 10 {
				t.Error("the length behind", p, letter, length)
			}
			if q, ok := next.fitting(); ok {
				gives(t, "IsDeadEnd behind"+call, false)(impl.IsDeadEnd(q))
			}
		}
	}
	for _, p := range append(pairsUpTo(4), impl.Pair{From: left(8), To: right(8)}, impl.Pair{From: right(8), To: left(8)}) {
		gives(t, fmt.Sprint("IsDeadEnd ", p), false)(impl.IsDeadEnd(p))
	}
}

func TestLengthsOfWords(t *testing.T) {
	words := wordsUpTo(5, letters(1))
	for length := 6; length <= 20; length++ {
		words = append(words, someWords(length, 1, 10)...)
	}
	for _, w := range words {
		gives(t, fmt.Sprint("LengthOfWord ", w), rulesOfWord(w).length())(impl.LengthOfWord(w))
	}
	gives(t, "LengthOfWord of no letters", 0)(impl.LengthOfWord(nil))
	for _, letter := range letters(1) {
		for _, count := range []int{0, 1, 8, 9, 19, 20} {
			gives(t, fmt.Sprint("LengthOfWord ", count, " times ", letter), count)(impl.LengthOfWord(slices.Repeat([]int{letter}, count)))
		}
		for _, count := range []int{21, 22, 100} {
			fails[int](t, fmt.Sprint("LengthOfWord ", count, " times ", letter))(impl.LengthOfWord(slices.Repeat([]int{letter}, count)))
		}
	}
	gives(t, "LengthOfWord of 20 letters for nothing", 0)(impl.LengthOfWord(slices.Repeat([]int{1, -1, 2, -2}, 5)))
	fails[int](t, "LengthOfWord of 21 letters for less")(impl.LengthOfWord(append(slices.Repeat([]int{1, -1, 2, -2}, 5), 1)))
}

// TestDistances has pairs of 8 carets with products of up to 16 carets.
func TestDistances(t *testing.T) {
	pairs := slices.Concat(reducedUpTo(2), pairsWith(3)[4:12], somePairs(8, 12), deadEnds()[:1], []impl.Pair{
		{From: left(8), To: right(8)}, {From: right(8), To: left(8)}, {From: left(8), To: left(8)},
	})
	most := 0
	for _, p := range pairs {
		for _, q := range pairs {
			call := fmt.Sprint("DistanceOf ", p, q)
			both := rulesOf(p).inverse().then(rulesOf(q))
			want := both.length()
			gives(t, call, want)(impl.DistanceOf(p, q))
			gives(t, call+" the other way", want)(impl.DistanceOf(q, p))
			most = max(most, len(both)-1)
		}
		length, _ := impl.LengthOf(p)
		gives(t, fmt.Sprint("DistanceOf nothing and ", p), length)(impl.DistanceOf(impl.IdentityPair(), p))
		gives(t, fmt.Sprint("DistanceOf one pair and itself ", p), 0)(impl.DistanceOf(p, p))
	}
	if most < 12 {
		t.Error("the most carets of a product:", most)
	}
	gives(t, "DistanceOf combs", 14)(impl.DistanceOf(impl.Pair{From: left(8), To: right(8)}, impl.Pair{From: right(8), To: left(8)}))
}

func TestExampleOfLengths(t *testing.T) {
	gives(t, "CaretKinds", []string{"L0", "LL"})(impl.CaretKinds("((..).)"))
	gives(t, "CaretKinds", []string{"L0", "R0"})(impl.CaretKinds("(.(..))"))
	gives(t, "LengthOf x(0)", 1)(impl.LengthOf(pair("((..).)>(.(..))")))
	for r, want := range []int{1, 4, 12, 36} {
		gives(t, fmt.Sprint("SphereSize ", r), want)(impl.SphereSize(r))
	}
	// The generators behind x(1) are x(1) between letters x(0).
	for i := 1; i < 7; i++ {
		p, _ := impl.GeneratorPair(i)
		want := slices.Concat(slices.Repeat([]int{-1}, i-1), []int{2}, slices.Repeat([]int{1}, i-1))
		gives(t, fmt.Sprint("ShortestWord x", i), want)(impl.ShortestWord(p))
	}
}
