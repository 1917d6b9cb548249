package tests

import (
	"fmt"
	"slices"
	"strings"
	"testing"

	"loop.example/g01161/impl"
)

// Promise 11, for chapter 1: all arguments are accepted without panicking, none is modified.

// noTrees returns texts that are no trees.
func noTrees() []string {
	return []string{
		"", "(", ")", "()", "..", "(.)", "(...)", "(..", "..)", "(..))", "((..)", "(..).", ".(..)", "(..)(..)",
		" .", ". ", "( ..)", ".\n", ".\x00", "\x00", "\xff\xfe", "(.\xff)", "(\u2024.)", "[..]", "01", "(0.)",
		right(impl.MaxCarets + 1), left(impl.MaxCarets + 1), right(impl.MaxCarets) + ".", right(100), left(100),
		strings.Repeat("(", 10_000_000), strings.Repeat("(.", 5_000_000), strings.Repeat(".", 10_000_000),
		right(1_000_000), left(1_000_000), right(impl.MaxCarets) + strings.Repeat(")", 1_000_000),
	}
}

// short keeps messages about very long texts readable.
func short(text string) string { return fmt.Sprintf("%.40q", text) }

func TestFunctionsOfOneTreeFailForOtherTexts(t *testing.T) {
	for _, text := range noTrees() {
		call := short(text)
		if impl.IsTree(text) {
			t.Error("IsTree", call)
		}
		fails[int](t, "CaretsOf "+call)(impl.CaretsOf(text))
		fails[[]string](t, "AddressesOf "+call)(impl.AddressesOf(text))
		fails[[]int](t, "DepthsOf "+call)(impl.DepthsOf(text))
		fails[string](t, "SubtreeAt "+call)(impl.SubtreeAt(text, ""))
		fails[[]int](t, "ExposedOf "+call)(impl.ExposedOf(text))
		fails[string](t, "DropExposed "+call)(impl.DropExposed(text, 0))
		fails[string](t, "MirrorTree "+call)(impl.MirrorTree(text))
		fails[int](t, "RankTree "+call)(impl.RankTree(text))
	}
}

func TestFunctionsOfTwoTreesFailForOtherTexts(t *testing.T) {
	for _, text := range noTrees() {
		call := short(text)
		for _, tree := range []string{".", "(..)", text} {
			fails[string](t, "GraftAt "+call)(impl.GraftAt(text, 0, tree))
			fails[string](t, "GraftAt with "+call)(impl.GraftAt(tree, 0, text))
			fails[string](t, "JoinTrees "+call)(impl.JoinTrees(text, tree))
			fails[string](t, "JoinTrees with "+call)(impl.JoinTrees(tree, text))
			fails[string](t, "CommonTree "+call)(impl.CommonTree(text, tree))
			fails[string](t, "CommonTree with "+call)(impl.CommonTree(tree, text))
			fails[bool](t, "IsPartOf "+call)(impl.IsPartOf(text, tree))
			fails[bool](t, "IsPartOf with "+call)(impl.IsPartOf(tree, text))
		}
	}
}

func TestOtherAddresses(t *testing.T) {
	for _, address := range []string{
		"2", "/", " ", "0 ", " 0", "00", "01", "100", "0\x00", "\xff", "\xb0", "\u0660", "L", "(",
		strings.Repeat("0", 10_000_000), strings.Repeat("1", 10_000_000), strings.Repeat("\xff", 10_000_000),
	} {
		fails[string](t, "SubtreeAt "+short(address))(impl.SubtreeAt("(.(..))", address))
	}
	gives(t, "SubtreeAt the right side", "(..)")(impl.SubtreeAt("(.(..))", "1"))
}

func TestOtherListsOfAddresses(t *testing.T) {
	long := strings.Repeat("0", 1_000_000)
	for _, list := range [][]string{
		nil, {}, {"", ""}, {"0"}, {"1"}, {"0", "1", "1"}, {"1", "0"}, {"0", "0"}, {"00", "01"}, {"", "0", "1"}, {"0", "1", ""},
		{"0", "2"}, {"0", "1 "}, {"\xff", "1"}, {"0", "\x00"}, {long}, {long, "1"}, {"0", long}, {long, long + "1"},
		make([]string, 1_000_000), slices.Repeat([]string{"0", "1"}, 1_000_000),
	} {
		fails[string](t, "TreeWith "+short(fmt.Sprint(list)))(impl.TreeWith(list))
	}
}

// TestListsAreNotModified gives TreeWith a part of a longer list, so that a change behind the part would be seen.
func TestListsAreNotModified(t *testing.T) {
	for _, tree := range append(treesUpTo(4), right(8), left(8)) {
		whole := append(modelOf(tree).leaves(), "behind", "more")
		kept := slices.Clone(whole)
		for n := range len(whole) + 1 {
			impl.TreeWith(whole[:n])
			if !slices.Equal(whole, kept) {
				t.Fatalf("TreeWith made %q of %q", whole, kept)
			}
		}
	}
}

// TestResultsAreNew changes results up to their capacities: later calls must not see it.
func TestResultsAreNew(t *testing.T) {
	tree := "((..)(.(..)))"
	for range 2 {
		addresses, ok := impl.AddressesOf(tree)
		gives(t, "AddressesOf", []string{"00", "01", "10", "110", "111"})(addresses, ok)
		spoil(addresses, "spoilt")
		depths, ok := impl.DepthsOf(tree)
		gives(t, "DepthsOf", []int{2, 2, 2, 3, 3})(depths, ok)
		spoil(depths, -1)
		exposed, ok := impl.ExposedOf(tree)
		gives(t, "ExposedOf", []int{0, 3})(exposed, ok)
		spoil(exposed, -1)
		trees, ok := impl.AllTrees(3)
		gives(t, "AllTrees", treesWith(3))(trees, ok)
		spoil(trees, "spoilt")
	}
}

func spoil[T any](list []T, value T) {
	list = list[:cap(list)]
	for i := range list {
		list[i] = value
	}
}

// TestAllNumbersAreAccepted gives numbers beyond all bounds to every function that takes one.
func TestAllNumbersAreAccepted(t *testing.T) {
	for _, n := range []int{-1 << 63, -1<<63 + 1, -1 << 32, -2, -1, 9, 10, 100, 1 << 31, 1 << 32, 1<<63 - 2, 1<<63 - 1} {
		call := fmt.Sprint(n)
		fails[string](t, "RightComb "+call)(impl.RightComb(n))
		fails[string](t, "LeftComb "+call)(impl.LeftComb(n))
		fails[[]string](t, "AllTrees "+call)(impl.AllTrees(n))
		fails[int](t, "CountTrees "+call)(impl.CountTrees(n))
		fails[string](t, "TreeAt with carets "+call)(impl.TreeAt(n, 0))
		fails[string](t, "TreeAt with both "+call)(impl.TreeAt(n, n))
		fails[string](t, "TreeAt with rank "+call)(impl.TreeAt(3, n))
		fails[string](t, "GraftAt "+call)(impl.GraftAt(right(8), n, "."))
		fails[string](t, "GraftAt of no tree "+call)(impl.GraftAt("", n, "."))
		fails[string](t, "DropExposed "+call)(impl.DropExposed(right(8), n))
		fails[string](t, "DropExposed of no tree "+call)(impl.DropExposed("", n))
	}
}
