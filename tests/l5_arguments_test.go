package tests

import (
	"fmt"
	"slices"
	"testing"

	"loop.example/g01161/impl"
)

// Promise 11, for chapter 5: all arguments are accepted without panicking, none is modified.

func TestKindsOfOtherTexts(t *testing.T) {
	for _, text := range noTrees() {
		fails[[]string](t, "CaretKinds "+short(text))(impl.CaretKinds(text))
	}
}

func TestLengthsOfOtherTexts(t *testing.T) {
	for _, p := range noPairs() {
		call := shortPair(p)
		fails[int](t, "LengthOf "+call)(impl.LengthOf(p))
		for _, most := range []int{least, -1, 0, 5, 6, greatest} {
			fails[int](t, fmt.Sprint("LengthBySpheres ", call, most))(impl.LengthBySpheres(p, most))
		}
		fails[[]int](t, "ShortestWord "+call)(impl.ShortestWord(p))
		fails[int](t, "CountShortest "+call)(impl.CountShortest(p))
		fails[[]int](t, "NextLengths "+call)(impl.NextLengths(p))
		fails[bool](t, "IsDeadEnd "+call)(impl.IsDeadEnd(p))
		for _, q := range []impl.Pair{impl.IdentityPair(), {From: left(8), To: right(8)}, p} {
			fails[int](t, "DistanceOf "+call)(impl.DistanceOf(p, q))
			fails[int](t, "DistanceOf with "+call)(impl.DistanceOf(q, p))
		}
	}
}

// TestLengthsOfOtherWords has words of chapter 3 with letters that have no place here.
func TestLengthsOfOtherWords(t *testing.T) {
	others := append(noWords(), []int{3}, []int{-3}, []int{21}, []int{-21}, []int{1, 2, 3}, []int{-3, 1}, []int{3, -3}, append(slices.Repeat([]int{1}, 19), 3))
	for _, w := range others {
		fails[int](t, "LengthOfWord "+short(fmt.Sprint(w)))(impl.LengthOfWord(w))
	}
	for _, letter := range []int{least, least + 1, -1 << 32, -22, 0, 22, 1 << 32, 1<<32 + 1, 1 << 62, greatest - 1, greatest} {
		for _, w := range [][]int{{letter}, {1, letter}, {letter, -letter}, {2, letter, 2}, slices.Repeat([]int{letter}, 20)} {
			fails[int](t, fmt.Sprint("LengthOfWord ", w))(impl.LengthOfWord(w))
		}
	}
}

// TestTwoWordsAreNotModified gives LengthOfWord a part of a longer list, so that a change behind the part would be seen.
func TestTwoWordsAreNotModified(t *testing.T) {
	whole := append(slices.Repeat([]int{1, 2, -1, -2, -2}, 4), 1, 1, 7, 0)
	kept := slices.Clone(whole)
	for n := range len(whole) + 1 {
		got, ok := impl.LengthOfWord(whole[:n])
		if ok != (n <= 20) || ok && got != rulesOfWord(kept[:n]).length() {
			t.Error("LengthOfWord", kept[:n], got, ok)
		}
		if !slices.Equal(whole, kept) {
			t.Fatalf("LengthOfWord made %v of %v", whole, kept)
		}
	}
}

// TestLengthResultsAreNew changes results up to their capacities: later calls must not see it.
func TestLengthResultsAreNew(t *testing.T) {
	p := pair("(.(.((..).)))>(.(.(.(..))))")
	for range 2 {
		kinds, ok := impl.CaretKinds(p.From)
		gives(t, "CaretKinds", []string{"L0", "RI", "I0", "R0"})(kinds, ok)
		spoil(kinds, "spoilt")
		w, ok := impl.ShortestWord(p)
		gives(t, "ShortestWord", []int{-1, 2, 1})(w, ok)
		spoil(w, 9)
		next, ok := impl.NextLengths(p)
		gives(t, "NextLengths", rulesOf(p).nextLengths())(next, ok)
		spoil(next, 9)
		pairs, ok := impl.SpherePairs(3)
		gives(t, "SpherePairs", searchedAt(3))(pairs, ok)
		spoil(pairs, p)
		gives(t, "KindLength", 4)(impl.KindLength("IR", "I0"))
	}
}
