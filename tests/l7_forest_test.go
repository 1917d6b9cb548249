package tests

import (
	"fmt"
	"slices"
	"strings"
	"testing"

	"loop.example/g01161/impl"
)

// Promise 7: stacked forests are products, and each pair is a fraction of forests.

// eightCarets is the forest of as many trees and carets as may be that has a caret in each tree.
const eightCarets = "(..) (..) (..) (..) (..) (..) (..) (..)"

func TestIsForest(t *testing.T) {
	for _, text := range []string{
		"-", "(..)", ". (..)", "(..) . . (.(..))", ". . . . . . . (..)", ". . . . . . . " + left(8), eightCarets,
		right(8), right(7) + " (..)", right(3) + " . " + left(5),
	} {
		if !impl.IsForest(listed(text)) {
			t.Error("IsForest", text)
		}
	}
	for _, text := range []string{
		".", "(..) .", ". .", ". (..) . .", ". . . . . . . .", ". . . . . . . . (..)", eightCarets + " (..)", "(..) . . . . . . (..) .",
		right(9), right(8) + " (..)", "(..) " + right(8), right(3) + " . " + left(6), "(..) (..) (..) (..) (..) (..) (..) (.(..))",
	} {
		if impl.IsForest(listed(text)) {
			t.Error("IsForest", text)
		}
	}
	if !impl.IsForest([]string{}) || !impl.IsForest(nil) {
		t.Error("IsForest of no trees")
	}
	for _, f := range manyForests() {
		if !impl.IsForest(f.list()) || impl.IsForest(append(f.list(), ".")) {
			t.Error("IsForest", f.text())
		}
	}
}

func TestCountsOfForests(t *testing.T) {
	for _, f := range manyForests() {
		gives(t, "CountForestCarets "+f.text(), len(f))(impl.CountForestCarets(f.list()))
		gives(t, "LeavesOfForest "+f.text(), len(f.leaves()))(impl.LeavesOfForest(f.list()))
	}
	for text, want := range map[string][2]int{
		"-": {0, 0}, "(..)": {1, 2}, ". (..) . (..)": {2, 6}, ". . . . . . . " + left(8): {8, 16}, eightCarets: {8, 16}, right(8): {8, 9},
	} {
		gives(t, "CountForestCarets "+text, want[0])(impl.CountForestCarets(listed(text)))
		gives(t, "LeavesOfForest "+text, want[1])(impl.LeavesOfForest(listed(text)))
	}
}

// TestForestsOfWords has forests as a hand tells them.
func TestForestsOfWords(t *testing.T) {
	for text, want := range map[string]string{
		"1": "-", "x0": "(..)", "x1": ". (..)", "x7": ". . . . . . . (..)",
		"x0.x0": "((..).)", "x0.x1": "(.(..))", "x0.x2": "(..) (..)", "x1.x0": "(..) (..)",
		"x0.x3.x2": "(..) (..) (..)", "x2.x1.x0": "(..) (..) (..)", "x0.x2.x4": "(..) (..) (..)", "x3.x3.x0.x1": "(.(..)) . . ((..).)",
		"x0.x8": "(..) . . . . . . (..)", "x0.x0.x0.x0.x0.x0.x0.x14": left(7) + " . . . . . . (..)",
		"x7.x7.x7.x7.x7.x7.x7.x7": ". . . . . . . " + left(8), "x7.x8.x9.x10.x11.x12.x13.x14": ". . . . . . . " + right(8),
		"x7.x6.x5.x4.x3.x2.x1.x0": eightCarets, "x0.x2.x4.x6.x8.x10.x12.x14": eightCarets,
	} {
		gives(t, "ForestOfWord "+text, listed(want))(impl.ForestOfWord(word(text)))
	}
	for _, text := range []string{
		"x0'", "x0.x0'", "x0'.x0", "x2.x1'", "x3.x3'.x2", "x0.x0.x0.x0.x0.x0.x0.x0'",
		"x8", "x15", "x20", "x0.x9", "x1.x9", "x8.x0", "x7.x9", "x7.x15", "x0.x0.x0.x0.x0.x0.x0.x15",
		"x0.x0.x0.x0.x0.x0.x0.x0.x0", "x7.x7.x7.x7.x7.x7.x7.x7.x7", "x7.x7.x6.x5.x4.x3.x2.x1.x0",
	} {
		fails[[]string](t, "ForestOfWord "+text)(impl.ForestOfWord(word(text)))
	}
	for _, w := range [][]int{slices.Repeat([]int{1}, 20), slices.Repeat([]int{21}, 20), append(slices.Repeat([]int{1}, 19), -1)} {
		fails[[]string](t, fmt.Sprint("ForestOfWord ", w))(impl.ForestOfWord(w))
	}
}

// withoutInverses returns the word in which inverses are exchanged for letters.
func withoutInverses(w []int) []int {
	var positive []int
	for _, letter := range w {
		positive = append(positive, max(letter, -letter))
	}
	return positive
}

func TestForestsOfManyWords(t *testing.T) {
	fitting := 0
	for _, w := range slices.Concat(wordsUpTo(4, []int{1, 2, 3, 8, 9}), someWords(5, 10, 200), someWords(8, 12, 200), someWords(9, 6, 50), manyWords()) {
		positive := withoutInverses(w)
		want := grown(positive)
		makes(t, "ForestOfWord "+textOfWord(positive), want)(impl.ForestOfWord(positive))
		if !slices.Equal(w, positive) {
			fails[[]string](t, "ForestOfWord "+textOfWord(w))(impl.ForestOfWord(w))
		}
		if _, ok := want.fitting(); ok {
			fitting++
		}
	}
	if fitting < 500 {
		t.Error("words of forests", fitting)
	}
}

// TestWordsOfForests has no forest whose word fails, since 8 carets make 8 letters, of which none is beyond x(14).
func TestWordsOfForests(t *testing.T) {
	for text, want := range map[string]string{
		"-": "1", "(..)": "x0", ". . (..)": "x2", "(..) (..)": "x0.x2", "(.(..))": "x0.x1", "((..).)": "x0.x0",
		"((..)(..)) . ((..)(..))": "x0.x0.x2.x5.x5.x7", left(8): "x0.x0.x0.x0.x0.x0.x0.x0", right(8): "x0.x1.x2.x3.x4.x5.x6.x7",
		right(7) + " . . . . . . (..)": "x0.x1.x2.x3.x4.x5.x6.x14", ". . . . . . . " + left(8): "x7.x7.x7.x7.x7.x7.x7.x7", eightCarets: "x0.x2.x4.x6.x8.x10.x12.x14",
	} {
		gives(t, "WordOfForest "+text, word(want))(impl.WordOfForest(listed(text)))
	}
	for _, f := range manyForests() {
		w, ok := impl.WordOfForest(f.list())
		gives(t, "WordOfForest "+f.text(), f.word())(w, ok)
		gives(t, "IsNormal the word of "+f.text(), true)(impl.IsNormal(w))
		gives(t, "ForestOfWord the word of "+f.text(), f.list())(impl.ForestOfWord(w))
	}
}

// TestNormalWordsTellForests checks that words stand for the same forest just if they have the same normal word.
func TestNormalWordsTellForests(t *testing.T) {
	for _, w := range wordsUpTo(5, []int{1, 2, 3, 4}) {
		f, ok := impl.ForestOfWord(w)
		if !ok {
			t.Error("ForestOfWord", w)
		}
		normal, _ := impl.NormalByRules(w)
		gives(t, "WordOfForest the forest of "+textOfWord(w), normal)(impl.WordOfForest(f))
	}
}

// TestStackForests has no forests that get too many trees when they are stacked: no leaf is in a tree with a greater number.
func TestStackForests(t *testing.T) {
	for _, c := range [][3]string{
		{"-", "-", "-"}, {"-", ". (..)", ". (..)"}, {". (..)", "-", ". (..)"}, {"-", eightCarets, eightCarets}, {eightCarets, "-", eightCarets},
		{"(..)", "(..)", "((..).)"}, {"(..)", ". (..)", "(.(..))"}, {"(..)", ". . (..)", "(..) (..)"}, {"(..)", ". . . (..)", "(..) . (..)"},
		{"((..)(..))", ". (..)", "((.(..))(..))"}, {". . (..)", "(..)", "(..) . (..)"}, {". . (..)", ". . . . (..)", ". . (..) (..)"},
		{"(..) . (..)", "(..) . (..) . (.(..))", "((..).) (..) (.(.(..)))"},
		{"(..) . (..)", "(..) . (..) . (.(..)) . (..)", "((..).) (..) (.(.(..))) . (..)"},
		{"(..)", ". . . . . . . (..)", "(..) . . . . . (..)"}, {left(7), ". . . . . . . (..)", "(" + left(6) + "(..))"},
		{". . . . . . . (..)", ". . . . . . . (..)", ". . . . . . . ((..).)"}, {". . . . . . . (..)", "(..)", "(..) . . . . . . (..)"},
		{left(4), left(4), left(8)}, {left(4), ". . . . . " + left(4), left(4) + " " + left(4)},
	} {
		gives(t, "StackForests "+c[0]+" and "+c[1], listed(c[2]))(impl.StackForests(listed(c[0]), listed(c[1])))
	}
	for _, c := range [][2]string{
		{left(4), left(5)}, {left(8), "(..)"}, {"(..)", left(8)}, {right(8), ". . . . . . . (..)"}, {eightCarets, ". . . . . . . (..)"}, {eightCarets, eightCarets},
	} {
		fails[[]string](t, "StackForests "+c[0]+" and "+c[1])(impl.StackForests(listed(c[0]), listed(c[1])))
	}
}

func TestStacksOfManyForests(t *testing.T) {
	fitting := 0
	for _, f := range fewForests() {
		for _, g := range fewForests() {
			want := f.stack(g)
			makes(t, "StackForests "+f.text()+" and "+g.text(), want)(impl.StackForests(f.list(), g.list()))
			if _, ok := want.fitting(); ok {
				fitting++
			}
		}
	}
	if fitting < 2000 {
		t.Error("stacked forests", fitting)
	}
}

// TestStackedWords checks that the forest of two words, one behind the other, is that of the one with that of the other stacked.
func TestStackedWords(t *testing.T) {
	list := wordsUpTo(3, []int{1, 2, 4, 6})
	for _, w := range list {
		f, _ := impl.ForestOfWord(w)
		for _, v := range list {
			g, _ := impl.ForestOfWord(v)
			both, ok := impl.ForestOfWord(slices.Concat(w, v))
			if !ok {
				t.Error("ForestOfWord", w, v)
			}
			gives(t, fmt.Sprint("StackForests of ", w, v), both)(impl.StackForests(f, g))
		}
	}
}

func TestPairOfForest(t *testing.T) {
	for text, want := range map[string]string{
		"-": ".>.", "(..)": "((..).)>(.(..))", ". (..)": "(.((..).))>(.(.(..)))", "(..) (..)": "((..)((..).))>(.(.(.(..))))",
		left(7): left(8) + ">" + right(8), "(..) (..) (..) (..)": "((..)((..)((..)((..).))))>" + right(8),
		". . . . . . (..)": "(.(.(.(.(.(.((..).)))))))>" + right(8),
	} {
		gives(t, "PairOfForest "+text, pair(want))(impl.PairOfForest(listed(text)))
	}
	for _, text := range []string{
		left(8), right(8), ". . . . . . . (..)", ". " + left(7), left(6) + " . (..)", "(..) (..) (..) ((..).)", eightCarets, ". . . . . . . " + left(8),
	} {
		fails[impl.Pair](t, "PairOfForest "+text)(impl.PairOfForest(listed(text)))
	}
	for _, f := range manyForests() {
		p, ok := impl.PairOfForest(f.list())
		expects(t, "PairOfForest "+f.text(), f.rules().reduced())(p, ok)
		if ok {
			gives(t, "IsReduced the pair of "+f.text(), true)(impl.IsReduced(p))
			gives(t, "WordOfPair the pair of "+f.text(), f.word())(impl.WordOfPair(p))
		}
	}
	for i := range 7 {
		x, _ := impl.GeneratorPair(i)
		f, _ := impl.ForestOfWord([]int{up(i)})
		gives(t, fmt.Sprint("PairOfForest the forest of x", i), x)(impl.PairOfForest(f))
	}
}

// TestProductsOfForests checks that the pair of stacked forests is the product of both.
func TestProductsOfForests(t *testing.T) {
	products := 0
	for _, f := range fewForests() {
		p, fine := impl.PairOfForest(f.list())
		for _, g := range fewForests() {
			q, good := impl.PairOfForest(g.list())
			both, ok := impl.StackForests(f.list(), g.list())
			product, fits := impl.ProductPair(p, q)
			if !fine || !good || !ok || !fits {
				continue
			}
			gives(t, "PairOfForest "+f.text()+" with "+g.text(), product)(impl.PairOfForest(both))
			products++
		}
	}
	if products < 1000 {
		t.Error("products", products)
	}
}

// checkFraction checks both forests of a pair, and that they make it again.
func checkFraction(t *testing.T, p impl.Pair) {
	t.Helper()
	reduced := rulesOf(p).reduced().pair()
	f, g, ok := impl.ForestsOfPair(p)
	first, second := hanging(reduced.From), hanging(reduced.To)
	if !ok || !slices.Equal(f, first.list()) || !slices.Equal(g, second.list()) {
		t.Errorf("ForestsOfPair %v is %q, %q, %v, not %q, %q", p, f, g, ok, first.list(), second.list())
	}
	gives(t, fmt.Sprint("PairOfForests those of ", p), reduced)(impl.PairOfForests(f, g))
	gives(t, fmt.Sprint("PairOfForests those of the inverse of ", p), impl.Pair{From: reduced.To, To: reduced.From})(impl.PairOfForests(g, f))
}

func TestForestsOfPair(t *testing.T) {
	for text, want := range map[string][2]string{
		".>.": {"-", "-"}, "((..).)>((..).)": {"-", "-"}, right(8) + ">" + right(8): {"-", "-"},
		"((..).)>(.(..))": {"(..)", "-"}, "(.(..))>((..).)": {"-", "(..)"}, "((..)((..).))>(.(.(.(..))))": {"(..) (..)", "-"},
		"(((..).)(..))>((.(..))(..))": {"((..).)", "(.(..))"}, "(((..).).)>((.(..)).)": {"((..).)", "(.(..))"},
		"((..)(.(..)))>(.(.((..).)))": {"(..)", ". . (..)"}, "(.((.(..))(..)))>((..)((.(..)).))": {". (.(..))", "(..) (.(..))"},
		left(8) + ">" + right(8): {left(7), "-"}, right(8) + ">" + left(8): {"-", left(7)},
		"(.(.(.(.(.(.((..).)))))))>" + left(8): {". . . . . . (..)", left(7)},
	} {
		f, g, ok := impl.ForestsOfPair(pair(text))
		if !ok || !slices.Equal(f, listed(want[0])) || !slices.Equal(g, listed(want[1])) {
			t.Errorf("ForestsOfPair %s is %q, %q, %v", text, f, g, ok)
		}
	}
	for _, p := range slices.Concat(pairsUpTo(4), somePairs(6, 100), somePairs(8, 300)) {
		checkFraction(t, p)
	}
	for _, f := range manyForests() {
		if p, ok := impl.PairOfForest(f.list()); ok {
			over, under, ok := impl.ForestsOfPair(p)
			if !ok || !slices.Equal(over, f.list()) || len(under) > 0 {
				t.Errorf("ForestsOfPair the pair of %s is %q, %q, %v", f.text(), over, under, ok)
			}
		}
	}
}

// TestPairOfForests checks products, also those of forests whose own pairs have too many carets, and that none has forests with fewer carets.
func TestPairOfForests(t *testing.T) {
	for _, f := range fewForests() {
		gives(t, "PairOfForests the same twice "+f.text(), impl.IdentityPair())(impl.PairOfForests(f.list(), f.list()))
		for _, g := range fewForests() {
			p, ok := impl.PairOfForests(f.list(), g.list())
			expects(t, "PairOfForests "+f.text()+" and "+g.text(), f.rules().then(g.rules().inverse()))(p, ok)
			if !ok {
				continue
			}
			over, under, ok := impl.ForestsOfPair(p)
			if !ok || len(forestOf(over)) > len(f) || len(forestOf(under)) > len(g) {
				t.Errorf("ForestsOfPair the pair of %s and %s is %q, %q, %v", f.text(), g.text(), over, under, ok)
			}
		}
	}
	for _, c := range [][3]string{
		{eightCarets, eightCarets, ".>."}, {". . . . . . . (..)", ". . . . . . . (..)", ".>."}, {left(8), left(7) + " (..)", "((..)(..))>(.((..).))"},
		{left(8), "(" + left(6) + "(..))", "(((..).).)>((.(..)).)"}, {left(8), "-", ""}, {"-", ". . . . . . . (..)", ""}, {left(8), ". . . . . . . (..)", ""}, {left(7), "-", left(8) + ">" + right(8)},
	} {
		call := "PairOfForests " + c[0] + " and " + c[1]
		if c[2] == "" {
			fails[impl.Pair](t, call)(impl.PairOfForests(listed(c[0]), listed(c[1])))
		} else {
			gives(t, call, pair(c[2]))(impl.PairOfForests(listed(c[0]), listed(c[1])))
		}
	}
}

func TestIsPartOfForest(t *testing.T) {
	for _, c := range []struct {
		f    string
		g    string
		want bool
	}{
		{"-", "-", true}, {"-", "(..)", true}, {"(..)", "-", false}, {"(..)", "(.(..))", true}, {"(.(..))", "(..)", false},
		{". (..)", "(..) ((..).)", true}, {"(..) (..)", ". ((..).)", false}, {"(..) (..)", "(..) . (..)", false}, {"(..)", "(..) . (..)", true},
		{". (..)", "(..)", false}, {". . (..)", right(8), false}, {"((..).)", "(.(..))", false}, {eightCarets, eightCarets, true}, {". . . . . . . (..)", eightCarets, true},
	} {
		gives(t, "IsPartOfForest "+c.f+" and "+c.g, c.want)(impl.IsPartOfForest(listed(c.f), listed(c.g)))
	}
	parts := 0
	for _, f := range fewForests() {
		for _, g := range fewForests() {
			want := f.isPartOf(g)
			gives(t, "IsPartOfForest "+f.text()+" and "+g.text(), want)(impl.IsPartOfForest(f.list(), g.list()))
			if want {
				parts++
			}
		}
	}
	if parts < 1000 {
		t.Error("parts", parts)
	}
}

func TestJoinedAndCommonForests(t *testing.T) {
	for _, c := range [][4]string{
		{"-", "-", "-", "-"}, {"-", ". (..)", ". (..)", "-"}, {"(..)", ". (..)", "(..) (..)", "-"}, {"((..).)", "(.(..))", "((..)(..))", "(..)"},
		{"(..) . ((..).)", "(.(..)) (..)", "(.(..)) (..) ((..).)", "(..)"}, {"((..).) (..) ((..).)", "(.(..)) . (.(..)) (..)", "((..)(..)) (..) ((..)(..)) (..)", "(..) . (..)"},
		{". (..)", "(..) . (..)", "(..) (..) (..)", "-"}, {"(..) (..) . . . . . (..)", ". (..) . . . . (..)", "(..) (..) . . . . (..) (..)", ". (..)"},
		{left(8), left(8), left(8), left(8)}, {left(5), right(4), "(" + left(4) + right(3) + ")", "(..)"}, {left(5), right(5), "", "(..)"},
		{eightCarets, eightCarets, eightCarets, eightCarets}, {right(8), ". (..)", "", "-"}, {"(..) (..) (..) (..)", ". . . . (..) (..) (..) ((..).)", "", "-"},
	} {
		call := c[0] + " and " + c[1]
		if c[2] == "" {
			fails[[]string](t, "JoinForests "+call)(impl.JoinForests(listed(c[0]), listed(c[1])))
		} else {
			gives(t, "JoinForests "+call, listed(c[2]))(impl.JoinForests(listed(c[0]), listed(c[1])))
		}
		gives(t, "CommonForest "+call, listed(c[3]))(impl.CommonForest(listed(c[0]), listed(c[1])))
	}
	for _, f := range fewForests() {
		for _, g := range fewForests() {
			call := f.text() + " and " + g.text()
			makes(t, "JoinForests "+call, f.union(g))(impl.JoinForests(f.list(), g.list()))
			makes(t, "CommonForest "+call, f.meet(g))(impl.CommonForest(f.list(), g.list()))
		}
	}
}

func TestLeftQuotient(t *testing.T) {
	for _, c := range [][3]string{
		{"-", "-", "-"}, {"-", ". (..)", ". (..)"}, {"(..)", "(..)", "-"}, {"(..)", "(..) (..)", ". . (..)"}, {"(..)", "((..).)", "(..)"}, {"(..)", "(.(..))", ". (..)"},
		{". (..)", "(..) (..)", "(..)"}, {". (..)", "(..) (.(..)) . (..)", "(..) . (..) . (..)"}, {"((..).)", "((..).) . . . . (..)", ". . . . . . . (..)"},
		{eightCarets, eightCarets, "-"}, {"-", eightCarets, eightCarets}, {left(7), left(8), "(..)"}, {left(7), "(" + left(6) + "(..))", ". . . . . . . (..)"},
		{right(7), right(8), ". . . . . . . (..)"},
	} {
		gives(t, "LeftQuotient "+c[0]+" and "+c[1], listed(c[2]))(impl.LeftQuotient(listed(c[0]), listed(c[1])))
	}
	for _, c := range [][2]string{
		{"(..)", "-"}, {"(..)", ". (..)"}, {"(.(..))", "((..).)"}, {"(..) (..)", "(..)"}, {"(..) (..)", "(..) . (..)"}, {". (..)", right(8)}, {eightCarets, right(8)},
		// These quotients have 9 trees and more.
		{left(7), left(7) + " (..)"}, {"((..).)", "((..).) . . . . . (..)"}, {"(..)", "(..) . . . . . . (..)"}, {". . . . . . . (..)", ". . . . . . . (.(..))"},
	} {
		fails[[]string](t, "LeftQuotient "+c[0]+" and "+c[1])(impl.LeftQuotient(listed(c[0]), listed(c[1])))
	}
	for _, f := range fewForests() {
		for _, h := range fewForests() {
			call := "LeftQuotient " + f.text() + " and " + h.text()
			g, ok := impl.LeftQuotient(f.list(), h.list())
			if !f.isPartOf(h) {
				fails[[]string](t, call)(g, ok)
				continue
			}
			makes(t, call, f.quotient(h))(g, ok)
			if ok {
				gives(t, "StackForests the quotient of "+f.text()+" and "+h.text(), h.list())(impl.StackForests(f.list(), g))
			}
		}
	}
}

// TestQuotientsOfStacks checks that a quotient undoes a stack.
func TestQuotientsOfStacks(t *testing.T) {
	for _, f := range fewForests() {
		for _, g := range fewForests() {
			if h, ok := impl.StackForests(f.list(), g.list()); ok {
				gives(t, "IsPartOfForest "+f.text()+" with "+g.text(), true)(impl.IsPartOfForest(f.list(), h))
				gives(t, "LeftQuotient "+f.text()+" with "+g.text(), g.list())(impl.LeftQuotient(f.list(), h))
			}
		}
	}
}

// TestQuotientsOfJoins checks that the quotients of a joined forest make the pair of both forests.
func TestQuotientsOfJoins(t *testing.T) {
	fractions := 0
	for _, f := range fewForests() {
		for _, g := range fewForests() {
			both, ok := impl.JoinForests(f.list(), g.list())
			if !ok {
				continue
			}
			over, fine := impl.LeftQuotient(f.list(), both)
			under, good := impl.LeftQuotient(g.list(), both)
			want := f.rules().inverse().then(g.rules())
			if _, fits := want.fitting(); fine && good && fits {
				gives(t, "PairOfForests the quotients of "+f.text()+" and "+g.text(), want.pair())(impl.PairOfForests(over, under))
				fractions++
			}
		}
	}
	if fractions < 1000 {
		t.Error("fractions", fractions)
	}
}

func TestTextsOfForests(t *testing.T) {
	for _, f := range manyForests() {
		gives(t, "ForestText "+f.text(), f.text())(impl.ForestText(f.list()))
		gives(t, "ParseForest "+f.text(), f.list())(impl.ParseForest(f.text()))
	}
	for text, f := range map[string][]string{
		"-": nil, "(..)": {"(..)"}, ". . (..)": {".", ".", "(..)"}, "(..) (..)": {"(..)", "(..)"},
	} {
		gives(t, "ForestText "+text, text)(impl.ForestText(f))
		gives(t, "ParseForest "+text, f)(impl.ParseForest(text))
	}
	longest := ". . . . . . . " + left(8)
	gives(t, "ParseForest the longest", strings.Fields(longest))(impl.ParseForest(longest))
	gives(t, "ParseForest a caret in each tree", strings.Fields(eightCarets))(impl.ParseForest(eightCarets))
	gives(t, "ForestText an empty list", "-")(impl.ForestText([]string{}))
}
