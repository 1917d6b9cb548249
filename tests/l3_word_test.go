package tests

import (
	"fmt"
	"slices"
	"strings"
	"testing"

	"loop.example/g01161/impl"
)

// Promise 3: each pair has one normal word, to which rules and drops lead from each of its words.

func TestIsWord(t *testing.T) {
	for _, w := range append(manyWords(), nil, []int{21, -21}, slices.Repeat([]int{-21}, 20)) {
		if !impl.IsWord(w) {
			t.Error("IsWord", w)
		}
	}
	for letter := -21; letter <= 21; letter++ {
		if impl.IsWord([]int{letter}) != (letter != 0) {
			t.Error("IsWord of", letter)
		}
	}
}

func TestInverseWords(t *testing.T) {
	gives(t, "InverseWord", word("x0.x2'.x1'"))(impl.InverseWord(word("x1.x2.x0'")))
	for _, w := range manyWords() {
		var want []int
		for _, letter := range w {
			want = append([]int{-letter}, want...)
		}
		gives(t, fmt.Sprint("InverseWord ", w), want)(impl.InverseWord(w))
	}
}

func TestFreeReduction(t *testing.T) {
	for text, want := range map[string]string{
		"1": "1", "x0.x0'": "1", "x0'.x0": "1", "x20'.x20": "1", "x0.x1.x1'.x0'": "1", "x0.x1.x1'": "x0", "x0.x0.x0'": "x0", "x0.x1.x0'": "x0.x1.x0'",
		"x1.x0": "x1.x0", "x3'.x2.x2'.x3.x3": "x3", "x0.x0'.x1.x1'.x2": "x2",
	} {
		gives(t, "FreeReduce "+text, word(want))(impl.FreeReduce(word(text)))
	}
	for _, w := range append(manyWords(), wordsUpTo(8, letters(0))...) {
		gives(t, fmt.Sprint("FreeReduce ", w), withoutPairs(w))(impl.FreeReduce(w))
	}
}

// expectedPair returns what PairOfWord has to give.
func expectedPair(w []int) (impl.Pair, bool) {
	r := identity()
	for i, letter := range w {
		r = r.then(rulesOfWord(w[i : i+1]))
		if letter < -7 || letter > 7 || len(r) > 9 {
			return impl.Pair{}, false
		}
	}
	return r.pair(), true
}

func TestPairsOfWords(t *testing.T) {
	gives(t, "PairOfWord x1.x0", pair("((..)((..).))>(.(.(.(..))))"))(impl.PairOfWord(word("x1.x0")))
	gives(t, "PairOfWord of no letters", pair(".>."))(impl.PairOfWord(nil))
	words := append(wordsUpTo(4, letters(2)), wordsUpTo(2, letters(20))...)
	for length := 3; length <= 20; length++ {
		words = append(words, someWords(length, 1, 40)...)
		words = append(words, someWords(length, 6, 40)...)
		words = append(words, someWords(length, 7, 10)...)
	}
	within, beyond := 0, 0
	for _, w := range words {
		want, fine := expectedPair(w)
		got, ok := impl.PairOfWord(w)
		if got != want || ok != fine {
			t.Errorf("PairOfWord %v is %v, %v, not %v, %v", w, got, ok, want, fine)
		}
		if len(w) > 5 && ok {
			within++
		} else if len(w) > 5 {
			beyond++
		}
	}
	if within < 100 || beyond < 100 {
		t.Error("longer words within and beyond the limit:", within, beyond)
	}
}

// TestPairsOfFirstLetters has words whose pair is within the limit, while that of some first letters is not.
func TestPairsOfFirstLetters(t *testing.T) {
	seven := strings.Repeat(".x0", 7)[1:]
	gives(t, "PairOfWord of 7 times x0", impl.Pair{From: left(8), To: right(8)})(impl.PairOfWord(word(seven)))
	gives(t, "PairOfWord of 7 times x0'", impl.Pair{From: right(8), To: left(8)})(impl.PairOfWord(word(strings.ReplaceAll(seven, "x0", "x0'"))))
	gives(t, "PairOfWord of 7 times x0 and back", impl.Pair{From: left(7), To: right(7)})(impl.PairOfWord(word(seven + ".x0'")))
	gives(t, "PairOfWord x6", generator(6).pair())(impl.PairOfWord(word("x6")))
	gives(t, "PairOfWord x6.x6'", pair(".>."))(impl.PairOfWord(word("x6.x6'")))
	for _, text := range []string{
		seven + ".x0", seven + ".x0.x0'", seven + ".x0.x0'.x0'", "x6.x0.x0'", "x6.x6.x6'", "x7", "x7'", "x7.x7'", "x20", "x20'", "x20.x20'", "x0.x7",
		strings.Repeat(".x0'", 10)[1:] + strings.Repeat(".x0", 10),
	} {
		fails[impl.Pair](t, "PairOfWord "+text)(impl.PairOfWord(word(text)))
	}
}

func TestExponents(t *testing.T) {
	gives(t, "the exponents of a leaf", []int{0})(impl.ExponentsOf("."))
	gives(t, "the exponents of a caret", []int{0, 0})(impl.ExponentsOf("(..)"))
	gives(t, "the exponents of x1.x0", []int{1, 0, 1, 0, 0})(impl.ExponentsOf("((..)((..).))"))
	gives(t, "exponents below the right side", []int{0, 2, 0, 0, 0})(impl.ExponentsOf("(.(((..).).))"))
	gives(t, "exponents on the right of a left side", []int{1, 2, 0, 0, 0})(impl.ExponentsOf("((.((..).)).)"))
	gives(t, "the exponents of the left comb", []int{7, 0, 0, 0, 0, 0, 0, 0, 0})(impl.ExponentsOf(left(8)))
	gives(t, "the exponents of the right comb", make([]int, 9))(impl.ExponentsOf(right(8)))
	for _, tree := range treesUpTo(8) {
		gives(t, "ExponentsOf "+tree, exponents(modelOf(tree).leaves()))(impl.ExponentsOf(tree))
	}
}

// lists returns all lists of at most so many numbers with at most a sum.
func lists(length int, sum int) [][]int {
	all := [][]int{{}}
	if length == 0 {
		return all
	}
	for first := range sum + 1 {
		for _, rest := range lists(length-1, sum-first) {
			all = append(all, append([]int{first}, rest...))
		}
	}
	return all
}

func withoutZeros(list []int) []int {
	for len(list) > 0 && list[len(list)-1] == 0 {
		list = list[:len(list)-1]
	}
	return list
}

func TestTreesOfExponents(t *testing.T) {
	least := map[string]string{}
	for _, tree := range treesUpTo(8) {
		key := fmt.Sprint(withoutZeros(exponents(modelOf(tree).leaves())))
		if other, ok := least[key]; !ok {
			least[key] = tree
		} else if len(other) == len(tree) {
			t.Error("two least trees", other, tree)
		}
	}
	found := 0
	for _, list := range lists(9, 8) {
		call := fmt.Sprint("TreeOfExponents ", list)
		tree, ok := least[fmt.Sprint(list)]
		if !ok || len(list) > 0 && list[len(list)-1] == 0 {
			fails[string](t, call)(impl.TreeOfExponents(list))
			continue
		}
		found++
		gives(t, call, tree)(impl.TreeOfExponents(list))
	}
	if found != len(least) {
		t.Error("lists of exponents with trees:", found, "of", len(least))
	}
}

func TestTreesOfExponentsAtTheLimits(t *testing.T) {
	gives(t, "TreeOfExponents of none", ".")(impl.TreeOfExponents(nil))
	gives(t, "TreeOfExponents of none", ".")(impl.TreeOfExponents([]int{}))
	gives(t, "TreeOfExponents 1", "((..).)")(impl.TreeOfExponents([]int{1}))
	gives(t, "TreeOfExponents 1 0 1", "((..)((..).))")(impl.TreeOfExponents([]int{1, 0, 1}))
	gives(t, "TreeOfExponents 0 2", "(.(((..).).))")(impl.TreeOfExponents([]int{0, 2}))
	gives(t, "TreeOfExponents 1 1", "((.(..)).)")(impl.TreeOfExponents([]int{1, 1}))
	gives(t, "TreeOfExponents 7", left(8))(impl.TreeOfExponents([]int{7}))
	gives(t, "TreeOfExponents of x(6)", generator(6).pair().From)(impl.TreeOfExponents([]int{0, 0, 0, 0, 0, 0, 1}))
	for _, list := range [][]int{
		{8}, {0}, {1, 0}, {0, 0}, {7, 0}, {-1}, {9}, {-1, 1}, {1, -1}, {1, -1, 1}, {0, 7}, {4, 0, 0, 0, 0, 0, 3}, {0, 0, 0, 0, 0, 0, 0, 1}, {0, 0, 0, 0, 0, 0, 0, 0, 1},
		{0, 0, 0, 0, 0, 0, 0, 0, 0, 1}, {0, 0, 0, 0, 0, 0, 2}, {1, 1, 1, 1, 1, 1, 1, 1, 1}, {8, 8, 8, 8, 8, 8, 8, 8, 8}, {1 << 62}, {1<<63 - 1, 1}, {-1 << 63, 1},
		make([]int, 9), make([]int, 10), append([]int{1}, make([]int, 8)...), slices.Repeat([]int{1}, 10), slices.Repeat([]int{1}, 1_000_000),
	} {
		fails[string](t, short(fmt.Sprint("TreeOfExponents ", list)))(impl.TreeOfExponents(list))
	}
}

func TestWordsOfPairs(t *testing.T) {
	gives(t, "the word of two leaves", word("1"))(impl.WordOfPair(pair(".>.")))
	gives(t, "the word of a pair that does nothing", word("1"))(impl.WordOfPair(pair("((..)(..))>((..)(..))")))
	gives(t, "the word of x(0), not reduced", word("x0"))(impl.WordOfPair(pair("((.(..)).)>(.((..).))")))
	gives(t, "the word of x(0) and back", word("x0'"))(impl.WordOfPair(pair("(.(..))>((..).)")))
	gives(t, "the longest words", slices.Repeat(word("x0"), 7))(impl.WordOfPair(impl.Pair{From: left(8), To: right(8)}))
	for i := range 7 {
		gives(t, fmt.Sprint("the word of x", i), []int{up(i)})(impl.WordOfPair(generator(i).pair()))
	}
	for _, p := range append(pairsUpTo(4), somePairs(8, 300)...) {
		want := rulesOf(p).reduced().normal()
		got, ok := impl.WordOfPair(p)
		gives(t, fmt.Sprint("WordOfPair ", p), want)(got, ok)
		gives(t, fmt.Sprint("WordOfPair is normal ", p), true)(impl.IsNormal(got))
		if back := rulesOfWord(got).pair(); back != rulesOf(p).reduced().pair() {
			t.Errorf("WordOfPair %v is %v, with the pair %v", p, got, back)
		}
	}
}

// TestPairsOfTheirWords goes from reduced pairs to words and back.
func TestPairsOfTheirWords(t *testing.T) {
	for _, p := range reducedUpTo(4) {
		w, _ := impl.WordOfPair(p)
		if want, ok := expectedPair(w); ok {
			gives(t, fmt.Sprint("the pair of the word of ", p), p)(impl.PairOfWord(w))
			if want != p {
				t.Error("the word of", p, "has the pair", want)
			}
		}
	}
}

func TestNormalWords(t *testing.T) {
	for text, want := range map[string]bool{
		"1": true, "x0": true, "x0'": true, "x20": true, "x20'": true, "x0.x2": true, "x1.x0": false, "x0'.x1": false, "x1'.x0": false, "x0'.x0": false, "x0.x0'": false,
		"x0.x1.x0'": true, "x0.x1'.x0'": true, "x0.x2.x0'": false, "x0.x2'.x0'": false, "x0.x0.x1.x0'.x0'": true, "x0.x1.x1'.x0'": false,
		"x0.x1.x2.x1'.x0'": true, "x0.x1.x3.x1'.x0'": false, "x0.x1.x3'.x1'.x0'": false, "x20.x20'": false, "x19.x20.x19'": true, "x18.x20.x18'": false,
		"x1'.x2'": false, "x2'.x1'": true, "x0.x1'": true, "x5.x5.x5": true, "x5'.x5'.x4'": true, "x0.x2.x3'.x0'": false, "x1.x3'.x2'": true,
	} {
		gives(t, "IsNormal "+text, want)(impl.IsNormal(word(text)))
	}
	for _, w := range append(manyWords(), wordsUpTo(6, letters(1))...) {
		gives(t, fmt.Sprint("IsNormal ", w), isNormal(w))(impl.IsNormal(w))
	}
}

// TestOneNormalWord checks, for all words of a pair, that just one of them is normal, and that all others lead to it.
func TestOneNormalWord(t *testing.T) {
	normalOf := map[impl.Pair][]int{}
	for _, w := range wordsUpTo(5, letters(2)) {
		p, ok := impl.PairOfWord(w)
		if !ok {
			continue
		}
		if isNormal, _ := impl.IsNormal(w); isNormal {
			if other, has := normalOf[p]; has {
				t.Error("two normal words", other, w)
			}
			normalOf[p] = w
		}
		want, _ := impl.WordOfPair(p)
		gives(t, fmt.Sprint("NormalByRules ", w), want)(impl.NormalByRules(w))
	}
	for p, w := range normalOf {
		gives(t, fmt.Sprint("WordOfPair ", p), w)(impl.WordOfPair(p))
	}
}

// TestRulesOfTwoLetters tries each rule for all numbers.
func TestRulesOfTwoLetters(t *testing.T) {
	table := changes()
	all := letters(20)
	used := 0
	for _, a := range all {
		for _, b := range all {
			w := []int{a, b}
			call := fmt.Sprint("RuleStep ", w)
			want, ok := table[[2]int{a, b}]
			if !ok || !areLetters(want) {
				fails[[]int](t, call)(impl.RuleStep(w))
				continue
			}
			used++
			gives(t, call, want)(impl.RuleStep(w))
		}
	}
	// Each number of a letter and its inverse, and four rules for k less than n less than 20.
	if used != 2*21+4*190 {
		t.Error("rules that were used:", used)
	}
}

func TestRuleSteps(t *testing.T) {
	table := changes()
	for _, w := range append(manyWords(), wordsUpTo(5, letters(1))...) {
		want, ok := stepped(table, w)
		if call := fmt.Sprint("RuleStep ", w); ok && areLetters(want) {
			gives(t, call, want)(impl.RuleStep(w))
		} else {
			fails[[]int](t, call)(impl.RuleStep(w))
		}
	}
	for text, want := range map[string]string{
		"x1.x0": "x0.x2", "x2.x1.x0": "x1.x3.x0", "x0.x2.x1": "x0.x1.x3", "x0'.x1.x1.x0": "x2.x0'.x1.x0", "x3.x3'.x1.x0": "x1.x0", "x19.x0": "x0.x20", "x0.x0'.x20.x0": "x20.x0",
	} {
		gives(t, "RuleStep "+text, word(want))(impl.RuleStep(word(text)))
	}
	for _, text := range []string{"1", "x0", "x0'", "x0.x1", "x1'.x0'", "x0.x1'", "x0.x2.x0'", "x20.x0", "x0'.x20", "x20'.x0", "x0'.x20'", "x20.x0.x1'.x1"} {
		fails[[]int](t, "RuleStep "+text)(impl.RuleStep(word(text)))
	}
}

func TestSortedWords(t *testing.T) {
	table := changes()
	within, beyond := 0, 0
	for _, w := range append(manyWords(), wordsUpTo(5, letters(1))...) {
		want, steps, ok := sorted(table, w)
		call := fmt.Sprint(w)
		if !ok {
			beyond++
			fails[[]int](t, "SortedWord "+call)(impl.SortedWord(w))
			fails[int](t, "RuleSteps "+call)(impl.RuleSteps(w))
			fails[[]int](t, "NormalByRules "+call)(impl.NormalByRules(w))
			continue
		}
		if len(w) > 10 {
			within++
		}
		gives(t, "SortedWord "+call, want)(impl.SortedWord(w))
		gives(t, "RuleSteps "+call, steps)(impl.RuleSteps(w))
		gives(t, "NormalByRules "+call, rulesOfWord(w).normal())(impl.NormalByRules(w))
	}
	if within < 100 || beyond < 100 {
		t.Error("longer words within and words beyond the limit:", within, beyond)
	}
}

// TestRulesAtTheLimits has words whose rules lead to the greatest letter, and just beyond it.
func TestRulesAtTheLimits(t *testing.T) {
	for _, c := range []struct {
		text, sorted, normal string
		steps                int
	}{
		{"1", "1", "1", 0},
		{"x20.x20'", "1", "1", 1},
		{"x19.x0", "x0.x20", "x0.x20", 1},
		{"x0'.x19'", "x20'.x0'", "x20'.x0'", 1},
		{"x0'.x19", "x20.x0'", "x20.x0'", 1},
		{"x19'.x0", "x0.x20'", "x0.x20'", 1},
		{"x18.x1.x0", "x0.x2.x20", "x0.x2.x20", 3},
		{"x0.x20.x0'", "x0.x20.x0'", "x19", 0},
		{"x0'.x0.x20", "x20", "x20", 1},
		{"x0.x2.x0'", "x0.x2.x0'", "x1", 0},
	} {
		gives(t, "SortedWord "+c.text, word(c.sorted))(impl.SortedWord(word(c.text)))
		gives(t, "NormalByRules "+c.text, word(c.normal))(impl.NormalByRules(word(c.text)))
		gives(t, "RuleSteps "+c.text, c.steps)(impl.RuleSteps(word(c.text)))
	}
	// Twenty letters of which each one passes all that are behind it.
	var down, low []int
	for range 10 {
		down, low = append(down, up(10)), append(low, up(0))
	}
	gives(t, "RuleSteps of 10 letters over 10", 100)(impl.RuleSteps(append(slices.Clone(down), low...)))
	gives(t, "SortedWord of 10 letters over 10", append(slices.Clone(low), slices.Repeat([]int{21}, 10)...))(impl.SortedWord(append(down, low...)))
	for _, text := range []string{
		"x20.x0", "x19.x0.x0", "x0'.x0'.x19'", "x18.x1.x0.x0", "x0'.x20.x0", "x20.x0.x0'", "x20.x0.x0", "x19.x18.x17.x16",
	} {
		w := word(text)
		fails[[]int](t, "SortedWord "+text)(impl.SortedWord(w))
		fails[int](t, "RuleSteps "+text)(impl.RuleSteps(w))
		fails[[]int](t, "NormalByRules "+text)(impl.NormalByRules(w))
	}
}

// TestRulesAreTheSame checks that each step of a rule leaves the pair as it is.
func TestRulesAreTheSame(t *testing.T) {
	for _, w := range wordsUpTo(4, letters(2)) {
		if next, ok := impl.RuleStep(w); ok && rulesOfWord(next).pair() != rulesOfWord(w).pair() {
			t.Error("RuleStep", w, next)
		}
		if next, ok := impl.DropStep(w); ok && rulesOfWord(next).pair() != rulesOfWord(w).pair() {
			t.Error("DropStep", w, next)
		}
	}
}

func TestDrops(t *testing.T) {
	for text, want := range map[string]string{
		"x0.x2.x0'": "x1", "x0.x2'.x0'": "x1'", "x0.x0.x2.x0'.x0'": "x0.x1.x0'", "x0.x2.x3'.x0'": "x1.x2'", "x18.x20.x18'": "x19", "x18.x20'.x18'": "x19'",
		"x0.x3.x5.x3'.x0'": "x0.x4.x0'", "x0.x0.x3.x0'": "x0.x2", "x0.x3'.x0'.x0'": "x2'.x0'", "x0.x1.x3.x1'.x0'": "x0.x2.x0'",
		"x1.x1.x3.x4'.x1'.x1'.x0'": "x1.x2.x3'.x1'.x0'", "x0.x4.x6.x4'.x2'.x0'": "x0.x5.x2'.x0'",
	} {
		gives(t, "DropStep "+text, word(want))(impl.DropStep(word(text)))
	}
	table := changes()
	done := 0
	for _, w := range sortedWords(table, append(manyWords(), wordsUpTo(5, letters(3))...)) {
		call := fmt.Sprint("DropStep ", w)
		list := drops(w)
		if len(list) == 0 {
			fails[[]int](t, call)(impl.DropStep(w))
			gives(t, call+" of a normal word", true)(impl.IsNormal(w))
			continue
		}
		done++
		next, ok := impl.DropStep(w)
		gives(t, call, dropped(w, list[len(list)-1]))(next, ok)
		if _, changed := stepped(table, next); changed || len(next) != len(w)-2 {
			t.Error(call, "is not sorted:", next)
		}
	}
	if done < 100 {
		t.Error("words with drops:", done)
	}
}

// TestDropsOfOtherWords has words that are not sorted, and those that are normal.
func TestDropsOfOtherWords(t *testing.T) {
	for _, text := range []string{"1", "x0", "x20'", "x0.x1.x0'", "x0.x2", "x0.x0'", "x1.x1'", "x0.x2.x0'.x0", "x2.x0.x0'", "x0.x3.x2.x0'", "x0'.x2.x0", "x20.x20'", "x19.x20.x19'", "x19.x20'.x19'", "x0.x2.x0'.x1'", "x0.x2.x2'.x0'"} {
		fails[[]int](t, "DropStep "+text)(impl.DropStep(word(text)))
	}
}

func TestShiftedWords(t *testing.T) {
	for _, w := range manyWords() {
		for k := range 21 {
			var want []int
			for _, letter := range w {
				if letter > 0 {
					want = append(want, letter+k)
				} else {
					want = append(want, letter-k)
				}
			}
			if call := fmt.Sprint("ShiftWord ", w, k); areLetters(want) {
				gives(t, call, want)(impl.ShiftWord(w, k))
			} else {
				fails[[]int](t, call)(impl.ShiftWord(w, k))
			}
		}
	}
	gives(t, "ShiftWord of no letters", word("1"))(impl.ShiftWord(nil, 20))
	gives(t, "ShiftWord x0.x0' by 20", word("x20.x20'"))(impl.ShiftWord(word("x0.x0'"), 20))
	for _, w := range [][]int{nil, {1}, {-1}} {
		for _, k := range []int{-1, 21, 22, -20, 1 << 62, 1<<63 - 1, -1 << 63} {
			fails[[]int](t, fmt.Sprint("ShiftWord ", w, k))(impl.ShiftWord(w, k))
		}
	}
}

func TestWordsOfTwo(t *testing.T) {
	for text, want := range map[string]string{
		"1": "1", "x0": "x0", "x1'": "x1'", "x2": "x0'.x1.x0", "x2'": "x0'.x1'.x0", "x3": "x0'.x0'.x1.x0.x0", "x2.x2": "x0'.x1.x1.x0", "x0.x2.x0'": "x1", "x2.x0'.x2'": "x0'.x1.x0'.x1'.x0",
		"x5.x5'": "1", "x4.x2": "x0'.x0'.x0'.x1.x0.x0.x1.x0",
	} {
		gives(t, "WordOfTwo "+text, word(want))(impl.WordOfTwo(word(text)))
	}
	for _, w := range manyWords() {
		list := inTwo(w)
		call := fmt.Sprint("WordOfTwo ", w)
		if len(list) > 300 {
			fails[[]int](t, call)(impl.WordOfTwo(w))
			continue
		}
		got, ok := impl.WordOfTwo(w)
		gives(t, call, withoutPairs(list))(got, ok)
		if len(w) < 5 && rulesOfWord(got).pair() != rulesOfWord(w).pair() {
			t.Error(call, "is another product:", got)
		}
	}
}

// TestWordsOfTwoAtTheLimit has words with exactly MaxTwo letters, and with one more, before these are reduced.
func TestWordsOfTwoAtTheLimit(t *testing.T) {
	// x(20) has 39 letters, x(14) 27 and x(0) one.
	exact := append(slices.Repeat([]int{up(20)}, 7), up(14))
	gives(t, "WordOfTwo at the limit", withoutPairs(inTwo(exact)))(impl.WordOfTwo(exact))
	back, _ := impl.InverseWord(exact)
	gives(t, "WordOfTwo at the limit", withoutPairs(inTwo(back)))(impl.WordOfTwo(back))
	fails[[]int](t, "WordOfTwo beyond the limit")(impl.WordOfTwo(append(slices.Clone(exact), up(0))))
	fails[[]int](t, "WordOfTwo beyond the limit")(impl.WordOfTwo(append(slices.Clone(exact), down(1))))
	// All of these would be taken away.
	none := append(slices.Repeat([]int{up(20), down(20)}, 3), slices.Repeat([]int{up(16), down(16)}, 1)...)
	none = append(none, up(1), down(1), up(1), down(1))
	if n := len(inTwo(none)); n != 300 {
		t.Fatal("letters", n)
	}
	gives(t, "WordOfTwo of 300 letters that vanish", word("1"))(impl.WordOfTwo(none))
	fails[[]int](t, "WordOfTwo of 301 letters that vanish")(impl.WordOfTwo(append(none, up(0))))
	fails[[]int](t, "WordOfTwo of 20 times the greatest")(impl.WordOfTwo(slices.Repeat([]int{21}, 20)))
}

// sums returns both results of SumsOfWord as one value, since the tools for checks take just one.
func sums(w []int) ([2]int, bool) {
	zero, others, ok := impl.SumsOfWord(w)
	return [2]int{zero, others}, ok
}

func TestSums(t *testing.T) {
	for text, want := range map[string][2]int{
		"1": {0, 0}, "x0": {1, 0}, "x0'": {-1, 0}, "x1": {0, 1}, "x20'": {0, -1}, "x0.x0.x3.x7'.x1'.x1'.x0'": {1, -2},
	} {
		gives(t, "SumsOfWord "+text, want)(sums(word(text)))
	}
	gives(t, "SumsOfWord of 20 letters", [2]int{-20, 0})(sums(slices.Repeat([]int{-1}, 20)))
	for _, w := range manyWords() {
		count := counts(w)
		want := [2]int{count[1] - count[-1], 0}
		for letter, n := range count {
			if letter > 1 {
				want[1] += n
			} else if letter < -1 {
				want[1] -= n
			}
		}
		gives(t, fmt.Sprint("SumsOfWord ", w), want)(sums(w))
		if normal, ok := impl.NormalByRules(w); ok {
			gives(t, fmt.Sprint("SumsOfWord of the normal word of ", w), want)(sums(normal))
		}
	}
}

func TestTextsOfWords(t *testing.T) {
	gives(t, "WordText of no letters", "1")(impl.WordText(nil))
	gives(t, "WordText", "x0.x2'")(impl.WordText([]int{1, -3}))
	gives(t, "ParseWord 1", word("1"))(impl.ParseWord("1"))
	for _, w := range append(manyWords(), slices.Repeat([]int{-21}, 20)) {
		gives(t, fmt.Sprint("WordText ", w), textOfWord(w))(impl.WordText(w))
		gives(t, fmt.Sprint("ParseWord ", w), w)(impl.ParseWord(textOfWord(w)))
	}
	for letter := -21; letter <= 21; letter++ {
		if letter != 0 {
			gives(t, fmt.Sprint("WordText ", letter), textOfWord([]int{letter}))(impl.WordText([]int{letter}))
			gives(t, fmt.Sprint("ParseWord ", letter), []int{letter})(impl.ParseWord(textOfWord([]int{letter})))
		}
	}
}

// TestParseWordOfAllShortTexts tries all texts of at most six of some letters against those that words have.
func TestParseWordOfAllShortTexts(t *testing.T) {
	words := map[string][]int{}
	for _, w := range wordsUpTo(3, []int{1, -1, 2, -2, 11, -11, 12, -12}) {
		words[textOfWord(w)] = w
	}
	for _, text := range textsOf("x01.'", 6) {
		want, ok := words[text]
		if got, fine := impl.ParseWord(text); fine != ok || !slices.Equal(got, want) {
			t.Fatal("ParseWord", text, got, fine)
		}
	}
}
