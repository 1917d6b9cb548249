package tests

import (
	"fmt"
	"slices"
	"strings"
	"testing"

	"loop.example/g01161/impl"
)

// Promise 11, for chapter 7: all arguments are accepted without panicking, none is modified.

// noForests returns lists that are no forests.
func noForests() [][]string {
	list := [][]string{
		{"."}, {"(..)", "."}, {".", "."}, {".", "(..)", ".", "."}, slices.Repeat([]string{"."}, 8), append(slices.Repeat([]string{"."}, 8), "(..)"),
		slices.Repeat([]string{"(..)"}, 9), {right(8), "(..)"}, {"(..)", left(8)}, {right(4), ".", right(5)}, slices.Repeat([]string{right(8)}, 8),
		{"-"}, {"-", "(..)"}, {"(..) (..)"}, {"(..)", ""}, {"", "(..)"}, {"(..) "}, {" (..)"}, {"(..)>(..)"}, make([]string, 8),
		make([]string, 1_000_000), slices.Repeat([]string{"(..)"}, 1_000_000),
	}
	for _, text := range noTrees() {
		list = append(list, []string{text}, []string{text, "(..)"}, []string{"(..)", text}, []string{".", text, "(..)"})
	}
	return list
}

// ofTwoForests are all functions that make a forest of two.
func ofTwoForests() map[string]func([]string, []string) ([]string, bool) {
	return map[string]func([]string, []string) ([]string, bool){
		"StackForests": impl.StackForests, "JoinForests": impl.JoinForests, "CommonForest": impl.CommonForest, "LeftQuotient": impl.LeftQuotient,
	}
}

// called names a call with lists that may be long, or have long texts.
func called(name string, lists ...[]string) string {
	for _, f := range lists {
		name += " " + short(strings.Join(f[:min(len(f), 10)], " "))
	}
	return name
}

func TestFunctionsOfOneForestFailForOtherLists(t *testing.T) {
	for _, f := range noForests() {
		if impl.IsForest(f) {
			t.Error(called("IsForest", f))
		}
		fails[[]int](t, called("WordOfForest", f))(impl.WordOfForest(f))
		fails[int](t, called("LeavesOfForest", f))(impl.LeavesOfForest(f))
		fails[impl.Pair](t, called("PairOfForest", f))(impl.PairOfForest(f))
		fails[int](t, called("CountForestCarets", f))(impl.CountForestCarets(f))
		fails[string](t, called("ForestText", f))(impl.ForestText(f))
	}
}

func TestFunctionsOfTwoForestsFailForOtherLists(t *testing.T) {
	for _, f := range noForests() {
		for _, g := range [][]string{nil, {"(..)"}, strings.Fields(eightCarets), f} {
			for name, function := range ofTwoForests() {
				fails[[]string](t, called(name, f, g))(function(f, g))
				fails[[]string](t, called(name, g, f))(function(g, f))
			}
			fails[impl.Pair](t, called("PairOfForests", f, g))(impl.PairOfForests(f, g))
			fails[impl.Pair](t, called("PairOfForests", g, f))(impl.PairOfForests(g, f))
			fails[bool](t, called("IsPartOfForest", f, g))(impl.IsPartOfForest(f, g))
			fails[bool](t, called("IsPartOfForest", g, f))(impl.IsPartOfForest(g, f))
		}
	}
}

func TestForestsOfOtherWordsAndPairs(t *testing.T) {
	for _, w := range noWords() {
		fails[[]string](t, "ForestOfWord "+short(fmt.Sprint(w)))(impl.ForestOfWord(w))
	}
	for _, letter := range []int{least, least + 1, -1 << 32, -22, -21, -1, 0, 22, 1 << 32, 1<<32 + 1, greatest - 1, greatest} {
		for _, w := range [][]int{{letter}, {1, letter}, {letter, 1}, slices.Repeat([]int{letter}, 20)} {
			fails[[]string](t, fmt.Sprint("ForestOfWord ", w))(impl.ForestOfWord(w))
		}
	}
	for _, p := range noPairs() {
		f, g, ok := impl.ForestsOfPair(p)
		if ok || len(f) > 0 || len(g) > 0 {
			t.Errorf("ForestsOfPair %s is %q, %q, %v", shortPair(p), f, g, ok)
		}
	}
}

func TestParseForestOfOtherTexts(t *testing.T) {
	list := []string{
		"", " ", "  ", "--", "- ", " -", "- -", "- (..)", "(..) -", "\u2013", ".", ". .", "(..) .", ". (..) . .", ". . . . . . . .",
		" (..)", "(..) ", "(..)  (..)", ".  (..)", " . (..)", ". (..) ", "( ..)", "(. .)", "(..)(..)", ".(..)", "(..),(..)", "(..).(..)", "(..)/-",
		"(..)\t(..)", "(..)\n", "(..)\n(..)", "(..)\x00", "\x00", "\xff", "(..)\u00a0(..)", "(..) (..", "(..) ..)", "(..) (...)", "(..)>(..)", "(..) x0", "[..]",
		eightCarets + " (..)", eightCarets + " ", eightCarets + " .", " " + eightCarets, ". . . . . . . . (..)", "(..) " + right(8), right(9), left(5) + " " + left(4),
		". . . . . . . " + left(9), ". . . . . . . " + left(8) + " ", ". . . . . . . " + left(8) + " .",
		strings.Repeat(" ", 10_000_000), strings.Repeat("(..) ", 1_000_000), strings.Repeat(". ", 1_000_000) + "(..)", strings.Repeat("-", 10_000_000),
	}
	for _, text := range append(list, noTrees()...) {
		fails[[]string](t, "ParseForest "+short(text))(impl.ParseForest(text))
	}
}

// callAll gives two lists, and each alone, to all functions that take forests, changes what they make, and tells it.
func callAll(f []string, g []string) string {
	told := ""
	tell := func(list []string, ok bool) {
		told += fmt.Sprintln(list, ok)
		spoil(list, "spoilt")
	}
	for _, name := range []string{"StackForests", "JoinForests", "CommonForest", "LeftQuotient"} {
		tell(ofTwoForests()[name](f, g))
	}
	word, ok := impl.WordOfForest(f)
	told += fmt.Sprintln(word, ok)
	spoil(word, 99)
	told += fmt.Sprintln(impl.IsForest(f))
	told += fmt.Sprintln(impl.LeavesOfForest(f))
	told += fmt.Sprintln(impl.PairOfForest(f))
	told += fmt.Sprintln(impl.PairOfForests(f, g))
	told += fmt.Sprintln(impl.IsPartOfForest(f, g))
	told += fmt.Sprintln(impl.CountForestCarets(f))
	told += fmt.Sprintln(impl.ForestText(f))
	return told
}

// TestForestsAreNotModified gives the functions parts of longer lists, so that a change behind the parts would be seen,
// and the same parts of lists without anything behind them.
func TestForestsAreNotModified(t *testing.T) {
	for _, text := range []string{
		"(..) . (..) ((..).) . . (..) behind more", ". . (.(..)) . . (..) . (..) (..) .", right(8) + " . " + left(8), ". . . . . . . . . .", "(..) (..) (..) (..) (..) (..) (..) (..) (..) (..)",
	} {
		whole := listed(text)
		kept := slices.Clone(whole)
		for n := range len(whole) + 1 {
			for k := range len(whole) + 1 {
				got := callAll(whole[:n], whole[:k])
				if !slices.Equal(whole, kept) {
					t.Fatalf("a function made %q of %q", whole, kept)
				}
				if want := callAll(slices.Clone(kept[:n:n]), slices.Clone(kept[:k:k])); got != want {
					t.Errorf("parts of %q, %d and %d, make %s, not %s", whole, n, k, got, want)
				}
			}
		}
	}
}

func TestWordsOfForestsAreNotModified(t *testing.T) {
	whole := []int{4, 1, 2, 8, 8, 3, 1, 1, 1, -1, 0, 50}
	kept := slices.Clone(whole)
	for n := range len(whole) + 1 {
		got, ok := impl.ForestOfWord(whole[:n])
		if ok != (n <= 8) || ok && !slices.Equal(got, grown(kept[:n]).list()) {
			t.Error("ForestOfWord", kept[:n], got, ok)
		}
		spoil(got, "spoilt")
		if !slices.Equal(whole, kept) {
			t.Fatalf("ForestOfWord made %v of %v", whole, kept)
		}
	}
}

// TestForestResultsAreNew changes results up to their capacities: neither later calls nor other parts of a result must see it.
func TestForestResultsAreNew(t *testing.T) {
	for range 2 {
		f, g, ok := impl.ForestsOfPair(pair("(.((.(..))(..)))>((..)((.(..)).))"))
		gives(t, "ForestsOfPair, the first", listed(". (.(..))"))(f, ok)
		spoil(f, "spoilt")
		gives(t, "ForestsOfPair, the second", listed("(..) (.(..))"))(g, ok)
		spoil(g, "spoilt")
		for name, function := range map[string]func() ([]string, bool){
			"ForestOfWord": func() ([]string, bool) { return impl.ForestOfWord(word("x1.x0")) },
			"ParseForest":  func() ([]string, bool) { return impl.ParseForest("(..) (..)") },
			"StackForests": func() ([]string, bool) { return impl.StackForests(listed(". (..)"), listed("(..)")) },
			"JoinForests":  func() ([]string, bool) { return impl.JoinForests(listed(". (..)"), listed("(..)")) },
			"CommonForest": func() ([]string, bool) { return impl.CommonForest(listed("(..) (..)"), listed("(..) (..)")) },
			"LeftQuotient": func() ([]string, bool) { return impl.LeftQuotient(nil, listed("(..) (..)")) },
		} {
			list, ok := function()
			gives(t, name, listed("(..) (..)"))(list, ok)
			spoil(list, "spoilt")
		}
		w, ok := impl.WordOfForest(listed("(..) (..)"))
		gives(t, "WordOfForest", word("x0.x2"))(w, ok)
		spoil(w, 9)
	}
}

// TestForestResultsAreNotArguments changes lists that were passed: what has been made of them must not see it.
func TestForestResultsAreNotArguments(t *testing.T) {
	f, none := listed(". (..)"), make([]string, 0, 4)
	for name, function := range ofTwoForests() {
		for _, lists := range [][2][]string{{f, none}, {none, f}, {f, f}} {
			got, _ := function(slices.Clone(lists[0]), slices.Clone(lists[1]))
			first, second := slices.Clone(lists[0]), slices.Clone(lists[1])
			later, _ := function(first, second)
			spoil(first, "spoilt")
			spoil(second, "spoilt")
			if !slices.Equal(got, later) {
				t.Errorf("%s is %q behind a change of its arguments, not %q", name, later, got)
			}
		}
	}
}
