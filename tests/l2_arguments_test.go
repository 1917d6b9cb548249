package tests

import (
	"fmt"
	"slices"
	"testing"

	"loop.example/g01161/impl"
)

// Promise 11, for chapter 2: all arguments are accepted without panicking, none is modified.

// noPairs returns pairs of texts that are no pairs.
func noPairs() []impl.Pair {
	list := []impl.Pair{
		{}, {From: "."}, {To: "."}, {From: ".", To: "(..)"}, {From: "(..)", To: "."}, {From: right(8), To: right(7)},
		{From: left(2), To: right(3)}, {From: right(9), To: right(9)}, {From: left(9), To: right(8)}, {From: right(8), To: left(9)},
		{From: ".>.", To: ""}, {From: ".>.", To: "."}, {From: ".", To: ".>."},
	}
	for _, text := range noTrees() {
		list = append(list,
			impl.Pair{From: text, To: text}, impl.Pair{From: text, To: "."}, impl.Pair{From: ".", To: text},
			impl.Pair{From: text, To: right(8)}, impl.Pair{From: right(8), To: text})
	}
	return list
}

func shortPair(p impl.Pair) string { return short(p.From) + ">" + short(p.To) }

func TestFunctionsOfOnePairFailForOtherTexts(t *testing.T) {
	for _, p := range noPairs() {
		call := shortPair(p)
		if impl.IsPair(p) {
			t.Error("IsPair", call)
		}
		fails[bool](t, "IsReduced "+call)(impl.IsReduced(p))
		fails[impl.Pair](t, "ReducePair "+call)(impl.ReducePair(p))
		fails[impl.Pair](t, "ReduceBy "+call)(impl.ReduceBy(p, nil))
		fails[impl.Pair](t, "ReduceBy "+call)(impl.ReduceBy(p, []int{1, 2}))
		fails[impl.Pair](t, "ExpandPair "+call)(impl.ExpandPair(p, 0))
		fails[impl.Pair](t, "InversePair "+call)(impl.InversePair(p))
		fails[impl.Pair](t, "MirrorPair "+call)(impl.MirrorPair(p))
		fails[string](t, "PairText "+call)(impl.PairText(p))
		for _, k := range []int{-1 << 63, -10, -1, 0, 1, 2, 10, 1<<63 - 1} {
			fails[impl.Pair](t, fmt.Sprint("PowerPair ", call, k))(impl.PowerPair(p, k))
		}
	}
}

func TestFunctionsOfTwoPairsFailForOtherTexts(t *testing.T) {
	for _, p := range noPairs() {
		call := shortPair(p)
		for _, q := range []impl.Pair{impl.IdentityPair(), {From: left(8), To: right(8)}, p} {
			fails[impl.Pair](t, "ProductPair "+call)(impl.ProductPair(p, q))
			fails[impl.Pair](t, "ProductPair with "+call)(impl.ProductPair(q, p))
			fails[bool](t, "AreSamePairs "+call)(impl.AreSamePairs(p, q))
			fails[bool](t, "AreSamePairs with "+call)(impl.AreSamePairs(q, p))
			fails[impl.Pair](t, "CommutatorPair "+call)(impl.CommutatorPair(p, q))
			fails[impl.Pair](t, "CommutatorPair with "+call)(impl.CommutatorPair(q, p))
		}
	}
}

// TestChoicesAreNotModified gives ReduceBy a part of a longer list, so that a change behind the part would be seen.
func TestChoicesAreNotModified(t *testing.T) {
	whole := []int{5, 1, 1 << 40, 0, 2, 7, 3, 1, 9, -5, -6}
	kept := slices.Clone(whole)
	for n := range len(whole) + 1 {
		for _, tree := range []string{".", right(8), "(((..)(..))((..)(..)))"} {
			p := impl.Pair{From: tree, To: tree}
			want := n <= 9
			if got, ok := impl.ReduceBy(p, whole[:n]); ok != want || want && got != impl.IdentityPair() {
				t.Error("ReduceBy", p, whole[:n], got, ok)
			}
			if !slices.Equal(whole, kept) {
				t.Fatalf("ReduceBy made %v of %v", whole, kept)
			}
		}
	}
}
