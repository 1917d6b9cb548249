package tests

import (
	"fmt"
	"slices"
	"testing"

	"loop.example/g01161/impl"
)

// Promise 11, for chapter 9: all arguments are accepted without panicking, none is modified.

// failsTwice checks a call with two pairs as its results that has to fail.
func failsTwice(t *testing.T, call string) func(first impl.Pair, second impl.Pair, ok bool) {
	return func(first impl.Pair, second impl.Pair, ok bool) {
		t.Helper()
		fails[[2]impl.Pair](t, call)([2]impl.Pair{first, second}, ok)
	}
}

func TestConjugatesOfOtherTexts(t *testing.T) {
	for _, p := range noPairs() {
		call := shortPair(p)
		fails[impl.Pair](t, "ShiftPair "+call)(impl.ShiftPair(p))
		failsTwice(t, "SplitHalves "+call)(impl.SplitHalves(p))
		fails[[2]int](t, "SumsOfPair "+call)(both(impl.SumsOfPair(p)))
		for _, n := range []int{least, -1, 0, 1, 2, 3, 4, 5, greatest} {
			fails[[]impl.Pair](t, fmt.Sprint("RootsOf ", call, n))(impl.RootsOf(p, n))
			fails[[]impl.Pair](t, fmt.Sprint("CommutingWith ", call, n))(impl.CommutingWith(p, n))
			fails[impl.Pair](t, fmt.Sprint("LeastConjugate ", call, n))(impl.LeastConjugate(p, n))
		}
		for _, w := range [][]int{nil, {}, {1}, {-2, 1}, slices.Repeat([]int{1}, 6), {0}} {
			fails[impl.Pair](t, fmt.Sprint("ConjugateByWord ", call, w))(impl.ConjugateByWord(p, w))
		}
	}
}

func TestConjugatesWithOtherTexts(t *testing.T) {
	for _, p := range noPairs() {
		call := shortPair(p)
		for _, q := range []impl.Pair{impl.IdentityPair(), generator(0).pair(), {From: left(8), To: right(8)}, p} {
			fails[impl.Pair](t, "ConjugatePair "+call)(impl.ConjugatePair(p, q))
			fails[impl.Pair](t, "ConjugatePair with "+call)(impl.ConjugatePair(q, p))
			fails[impl.Pair](t, "HalvesPair "+call)(impl.HalvesPair(p, q))
			fails[impl.Pair](t, "HalvesPair with "+call)(impl.HalvesPair(q, p))
			for _, most := range []int{least, -1, 0, 1, 4, 5, greatest} {
				fails[[]int](t, fmt.Sprint("FindConjugator ", call, most))(impl.FindConjugator(p, q, most))
				fails[[]int](t, fmt.Sprint("FindConjugator with ", call, most))(impl.FindConjugator(q, p, most))
				fails[bool](t, fmt.Sprint("AreConjugateWithin ", call, most))(impl.AreConjugateWithin(p, q, most))
				fails[bool](t, fmt.Sprint("AreConjugateWithin with ", call, most))(impl.AreConjugateWithin(q, p, most))
			}
		}
	}
}

// TestConjugatesByOtherWords has lists that are no words, and words of chapter 3 with letters that have no place here.
func TestConjugatesByOtherWords(t *testing.T) {
	others := append(noWords(), []int{3}, []int{-3}, []int{1, 2, 3}, []int{-3, 1}, []int{3, -3}, []int{21}, []int{-21}, slices.Repeat([]int{1}, 7), slices.Repeat([]int{1, -1}, 4), slices.Repeat([]int{-2}, 20))
	for _, letter := range []int{least, least + 1, -1 << 32, -1<<32 - 1, 1<<32 + 1, 1 << 62, greatest - 1, greatest} {
		others = append(others, []int{letter}, []int{1, letter}, []int{letter, 1}, slices.Repeat([]int{letter}, 6))
	}
	for _, w := range others {
		for _, p := range []impl.Pair{impl.IdentityPair(), generator(0).pair(), generator(6).pair(), {From: left(8), To: right(8)}} {
			fails[impl.Pair](t, "ConjugateByWord "+short(fmt.Sprint(p, w)))(impl.ConjugateByWord(p, w))
		}
	}
}

// TestConjugatingWordsAreNotModified gives ConjugateByWord a part of a longer list, so that a change behind the part would be seen.
func TestConjugatingWordsAreNotModified(t *testing.T) {
	whole := []int{1, 2, -1, -2, -2, 1, 1, 7, 0}
	kept := slices.Clone(whole)
	r := generator(1)
	for n := range len(whole) + 1 {
		got, ok := impl.ConjugateByWord(r.pair(), whole[:n])
		if n <= 6 {
			expects(t, fmt.Sprint("ConjugateByWord ", kept[:n]), r.conjugate(rulesOfWord(kept[:n])))(got, ok)
		} else if ok {
			t.Error("ConjugateByWord", kept[:n], got)
		}
		if !slices.Equal(whole, kept) {
			t.Fatalf("ConjugateByWord made %v of %v", whole, kept)
		}
	}
}

// TestConjugateResultsAreNew changes results up to their capacities: later calls must not see it.
func TestConjugateResultsAreNew(t *testing.T) {
	x := generator(0).pair()
	for range 2 {
		w, ok := impl.FindConjugator(generator(1).pair(), generator(4).pair(), 4)
		gives(t, "FindConjugator", []int{1, 1, 1})(w, ok)
		spoil(w, 9)
		for name, function := range map[string]func() ([]impl.Pair, bool){
			"SmallPairs":    func() ([]impl.Pair, bool) { return impl.SmallPairs(2) },
			"RootsOf":       func() ([]impl.Pair, bool) { return impl.RootsOf(pair("(((..).).)>(.(.(..)))"), 2) },
			"CommutingWith": func() ([]impl.Pair, bool) { return impl.CommutingWith(x, 2) },
		} {
			inverse := impl.Pair{From: x.To, To: x.From}
			want := map[string][]impl.Pair{"SmallPairs": {pair(".>."), x, inverse}, "RootsOf": {x}, "CommutingWith": {pair(".>."), x, inverse}}[name]
			list, ok := function()
			gives(t, name, want)(list, ok)
			spoil(list, pair("(..)>(..)"))
		}
	}
}
