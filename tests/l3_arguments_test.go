package tests

import (
	"fmt"
	"slices"
	"strings"
	"testing"

	"loop.example/g01161/impl"
)

// Promise 11, for chapter 3: all arguments are accepted without panicking, none is modified.

// noWords returns lists that are no words.
func noWords() [][]int {
	return [][]int{
		{0}, {22}, {-22}, {23}, {1 << 62}, {1<<63 - 1}, {-1 << 63}, {1 << 32}, {1, 0}, {0, 1}, {1, -1, 22}, {-22, 22}, {0, 0}, {3, 2, 1, 0, 1, 2},
		slices.Repeat([]int{1}, 21), slices.Repeat([]int{1, -1}, 11), slices.Repeat([]int{0}, 20), append(slices.Repeat([]int{1}, 19), 22),
		append(slices.Repeat([]int{1}, 20), 0), make([]int, 1_000_000), slices.Repeat([]int{1}, 1_000_000), slices.Repeat([]int{-1 << 63}, 20),
	}
}

// ofWords are all functions that make a list of a word.
func ofWords() map[string]func([]int) ([]int, bool) {
	return map[string]func([]int) ([]int, bool){
		"InverseWord": impl.InverseWord, "FreeReduce": impl.FreeReduce, "RuleStep": impl.RuleStep, "SortedWord": impl.SortedWord, "DropStep": impl.DropStep,
		"NormalByRules": impl.NormalByRules, "WordOfTwo": impl.WordOfTwo,
		"ShiftWord by 0":  func(w []int) ([]int, bool) { return impl.ShiftWord(w, 0) },
		"ShiftWord by 20": func(w []int) ([]int, bool) { return impl.ShiftWord(w, 20) },
		"ShiftWord by -1": func(w []int) ([]int, bool) { return impl.ShiftWord(w, -1) },
	}
}

func TestFunctionsOfWordsFailForOtherLists(t *testing.T) {
	for _, w := range noWords() {
		call := short(fmt.Sprint(w))
		if impl.IsWord(w) {
			t.Error("IsWord", call)
		}
		for name, function := range ofWords() {
			fails[[]int](t, name+call)(function(w))
		}
		fails[impl.Pair](t, "PairOfWord "+call)(impl.PairOfWord(w))
		fails[bool](t, "IsNormal "+call)(impl.IsNormal(w))
		fails[int](t, "RuleSteps "+call)(impl.RuleSteps(w))
		fails[[2]int](t, "SumsOfWord "+call)(sums(w))
		fails[string](t, "WordText "+call)(impl.WordText(w))
	}
}

func TestExponentsAndWordsOfOtherTexts(t *testing.T) {
	for _, text := range noTrees() {
		fails[[]int](t, "ExponentsOf "+short(text))(impl.ExponentsOf(text))
	}
	for _, p := range noPairs() {
		fails[[]int](t, "WordOfPair "+shortPair(p))(impl.WordOfPair(p))
	}
}

func TestParseWordOfOtherTexts(t *testing.T) {
	for _, text := range []string{
		"", ".", "x", "'", "x'", "0", "2", "11", "01", "1.", ".1", "1'", "1.1", "1.x0", "x0.1", "x00", "x01", "x001", "x00'", "x020", "x21", "x21'", "x22", "x99", "x100",
		"x0.", ".x0", "x0..x1", "x0.x1.", "x0''", "'x0", "x'0", "x0'x1", "x0x1", "x0.1", "0.x1", "x0.x", "X0", "x0 ", " x0", "x 0", "x0. x1", "x0\n", "x0\x00", "x0\xff", "\xff", "x0,x1",
		"x-1", "x+1", "x-0", "x+0", "x1_0", "x0x1", "x0b1", "x1e1", "x1.0", "x0\u2019", "x\u0660", "x\uff10", "y0", "xx0", "0'", "-1", "x0^2", "x0'.x1''",
		"x9223372036854775807", "x9223372036854775808", "x9223372036854775807'", "x18446744073709551616", "x18446744073709551617", "x4294967296", "x0000000000000000000000000000000",
		strings.Repeat(".x0", 21)[1:], strings.Repeat(".x20'", 21)[1:], strings.Repeat(".x20'", 20)[1:] + ".", strings.Repeat(".x20'", 20)[1:] + "'", strings.Repeat(".x0", 20),
		strings.Repeat("x0.", 20), strings.Repeat("x0.", 10_000_000), strings.Repeat(".", 10_000_000), strings.Repeat("1", 10_000_000), "x" + strings.Repeat("0", 10_000_000),
		"x" + strings.Repeat("9", 90), strings.Repeat(".", 19), strings.Repeat("x", 10_000_000), strings.Repeat("'", 10_000_000),
	} {
		fails[[]int](t, "ParseWord "+short(text))(impl.ParseWord(text))
	}
	gives(t, "ParseWord of 20 letters", slices.Repeat([]int{1}, 20))(impl.ParseWord(strings.Repeat(".x0", 20)[1:]))
}

// TestWordsAreNotModified gives each function a part of a longer list, so that a change behind the part would be seen.
func TestWordsAreNotModified(t *testing.T) {
	for _, whole := range [][]int{
		{2, 1, -1, 3, 5, -2, 4, -4, -1, 2, 1, 1, -3, 2, 6, -2, 1, -1, -1, 2, 7, 0, 50},
		{1, 3, 3, 5, -4, -1, -1, -1, 0, 50}, {5, 3, -3, 2, 1}, {1, 1, 3, -1, -1, 8, 9}, {0, 1, 2, 3}, {1, 0, 1, 1, 0, 2, 3, 4, 5, 6, 7},
	} {
		kept := slices.Clone(whole)
		for n := range len(whole) + 1 {
			w := whole[:n]
			for name, function := range ofWords() {
				got, _ := function(w)
				spoil(got, 77)
				if !slices.Equal(whole, kept) {
					t.Fatalf("%s made %v of %v", name, whole, kept)
				}
			}
			impl.IsWord(w)
			impl.PairOfWord(w)
			impl.IsNormal(w)
			impl.RuleSteps(w)
			impl.SumsOfWord(w)
			impl.WordText(w)
			impl.TreeOfExponents(w)
			if !slices.Equal(whole, kept) {
				t.Fatalf("a function made %v of %v", whole, kept)
			}
		}
	}
}

// TestWordResultsAreNew changes results up to their capacities: later calls must not see it.
func TestWordResultsAreNew(t *testing.T) {
	for range 2 {
		for _, c := range []struct {
			name string
			want string
			got  func() ([]int, bool)
		}{
			{"ParseWord", "x3.x1'", func() ([]int, bool) { return impl.ParseWord("x3.x1'") }},
			{"WordOfPair", "x0.x2", func() ([]int, bool) { return impl.WordOfPair(pair("((..)((..).))>(.(.(.(..))))")) }},
			{"WordOfTwo", "x0'.x1.x0", func() ([]int, bool) { return impl.WordOfTwo(word("x2")) }},
			{"RuleStep", "x0.x2", func() ([]int, bool) { return impl.RuleStep(word("x1.x0")) }},
			{"ExponentsOf", "x0.x1", func() ([]int, bool) {
				list, ok := impl.ExponentsOf("((..)((..).))")
				if !ok || len(list) != 5 {
					return nil, false
				}
				return []int{list[0], list[2] + 1}, true
			}},
		} {
			list, ok := c.got()
			gives(t, c.name, word(c.want))(list, ok)
			spoil(list, -9)
		}
	}
}
