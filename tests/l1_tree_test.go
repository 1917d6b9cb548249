package tests

import (
	"fmt"
	"slices"
	"testing"

	"loop.example/g01161/impl"
)

// Promise 1: trees are told by addresses, joined, exposed, listed and ranked.

func TestIsTreeOfAllShortTexts(t *testing.T) {
	trees := map[string]bool{}
	for _, tree := range treesUpTo(2) {
		trees[tree] = true
	}
	for _, text := range textsOf("(.)x", 8) {
		if impl.IsTree(text) != trees[text] {
			t.Fatalf("IsTree %q is %v", text, impl.IsTree(text))
		}
	}
}

func TestIsTreeOfAllTrees(t *testing.T) {
	for n := range impl.MaxCarets + 1 {
		for _, tree := range treesWith(n) {
			if !impl.IsTree(tree) {
				t.Fatal("no tree:", tree)
			}
			gives(t, "CaretsOf "+tree, n)(impl.CaretsOf(tree))
		}
	}
	for _, tree := range treesWith(impl.MaxCarets + 1) {
		if impl.IsTree(tree) {
			t.Fatal("too many carets:", tree)
		}
	}
}

func TestAddressesTellTrees(t *testing.T) {
	gives(t, "the addresses of a leaf", []string{""})(impl.AddressesOf("."))
	gives(t, "the addresses", []string{"00", "01", "1"})(impl.AddressesOf("((..).)"))
	gives(t, "the tree with the empty address", ".")(impl.TreeWith([]string{""}))
	gives(t, "the tree with addresses", "(.(..))")(impl.TreeWith([]string{"0", "10", "11"}))
	for _, tree := range treesUpTo(impl.MaxCarets) {
		want := modelOf(tree).leaves()
		gives(t, "AddressesOf "+tree, want)(impl.AddressesOf(tree))
		gives(t, "TreeWith "+fmt.Sprint(want), tree)(impl.TreeWith(want))
	}
}

func TestDepthsAreLengthsOfAddresses(t *testing.T) {
	gives(t, "the depths of a leaf", []int{0})(impl.DepthsOf("."))
	gives(t, "the depths", []int{2, 2, 1})(impl.DepthsOf("((..).)"))
	for _, tree := range treesUpTo(impl.MaxCarets) {
		var want []int
		for _, a := range modelOf(tree).leaves() {
			want = append(want, len(a))
		}
		gives(t, "DepthsOf "+tree, want)(impl.DepthsOf(tree))
	}
}

// TestTreeWithShortLists tries all lists of at most three addresses of at most two letters: those of the trees alone succeed.
func TestTreeWithShortLists(t *testing.T) {
	trees := map[string]string{}
	for _, tree := range treesUpTo(2) {
		trees[fmt.Sprintf("%q", modelOf(tree).leaves())] = tree
	}
	lists := [][]string{{}}
	for first := 0; len(lists[first]) < 3; first++ {
		for _, a := range textsOf("012", 2) {
			lists = append(lists, append(slices.Clone(lists[first]), a))
		}
	}
	for _, list := range lists {
		key := fmt.Sprintf("%q", list)
		if tree, ok := trees[key]; ok {
			gives(t, "TreeWith "+key, tree)(impl.TreeWith(list))
		} else {
			fails[string](t, "TreeWith "+key)(impl.TreeWith(list))
		}
	}
}

// TestTreeWithSpoiltLists takes an address away, exchanges two, tells one twice, or makes one longer or shorter.
func TestTreeWithSpoiltLists(t *testing.T) {
	for _, tree := range append(treesUpTo(4), right(impl.MaxCarets), left(impl.MaxCarets)) {
		list := modelOf(tree).leaves()
		for i, a := range list {
			spoilt := [][]string{
				slices.Delete(slices.Clone(list), i, i+1),
				slices.Insert(slices.Clone(list), i, a),
				slices.Insert(slices.Clone(list), i, ""),
				append(slices.Clone(list[:i]), append([]string{a + "0"}, list[i+1:]...)...),
				append(slices.Clone(list[:i]), append([]string{a + "1"}, list[i+1:]...)...),
				append(slices.Clone(list[:i]), append([]string{a + " "}, list[i+1:]...)...),
			}
			if a != "" {
				spoilt = append(spoilt, append(slices.Clone(list[:i]), append([]string{a[1:]}, list[i+1:]...)...))
			}
			if i > 0 {
				other := slices.Clone(list)
				other[i-1], other[i] = other[i], other[i-1]
				spoilt = append(spoilt, other)
			}
			for _, other := range spoilt {
				fails[string](t, fmt.Sprintf("TreeWith %q", other))(impl.TreeWith(other))
			}
		}
	}
}

func TestTreeWithLongLists(t *testing.T) {
	for _, tree := range treesWith(impl.MaxCarets + 1)[:200] {
		list := modelOf(tree).leaves()
		fails[string](t, fmt.Sprintf("TreeWith %q", list))(impl.TreeWith(list))
	}
	for _, comb := range []string{right(impl.MaxCarets + 1), left(impl.MaxCarets + 1)} {
		list := modelOf(comb).leaves()
		fails[string](t, fmt.Sprintf("TreeWith %q", list))(impl.TreeWith(list))
	}
}

// TestSubtreesAtAllAddresses asks for all addresses that are a little longer than the ways in the tree.
func TestSubtreesAtAllAddresses(t *testing.T) {
	gives(t, "the whole leaf", ".")(impl.SubtreeAt(".", ""))
	fails[string](t, "below a leaf")(impl.SubtreeAt(".", "0"))
	addresses := textsOf("01x", 5)
	for _, tree := range treesUpTo(4) {
		set := modelOf(tree)
		places := map[string]bool{"": true}
		for a := range set {
			places[a+"0"], places[a+"1"] = true, true
		}
		for _, a := range addresses {
			call := fmt.Sprintf("SubtreeAt %s %q", tree, a)
			if places[a] {
				gives(t, call, set.textAt(a))(impl.SubtreeAt(tree, a))
			} else {
				fails[string](t, call)(impl.SubtreeAt(tree, a))
			}
		}
	}
	gives(t, "the deepest leaf", ".")(impl.SubtreeAt(right(8), "11111111"))
	gives(t, "the deepest caret", "(..)")(impl.SubtreeAt(left(8), "0000000"))
	fails[string](t, "below the deepest leaf")(impl.SubtreeAt(right(8), "111111110"))
}

func TestGraftAtAllLeaves(t *testing.T) {
	trees := treesUpTo(4)
	for _, tree := range trees {
		leaves := modelOf(tree).leaves()
		for _, other := range trees {
			for k, a := range leaves {
				want := modelOf(tree).graft(a, modelOf(other)).text()
				gives(t, fmt.Sprint("GraftAt ", tree, k, other), want)(impl.GraftAt(tree, k, other))
			}
			for _, k := range []int{-1, len(leaves), len(leaves) + 1, -1 << 63, 1<<63 - 1} {
				fails[string](t, fmt.Sprint("GraftAt ", tree, k, other))(impl.GraftAt(tree, k, other))
			}
		}
	}
}

func TestGraftAtTheLimit(t *testing.T) {
	gives(t, "8 and 0 carets", right(8))(impl.GraftAt(right(8), 3, "."))
	gives(t, "0 and 8 carets", left(8))(impl.GraftAt(".", 0, left(8)))
	gives(t, "5 and 3 carets", right(8))(impl.GraftAt(right(5), 5, right(3)))
	fails[string](t, "8 and 1 carets")(impl.GraftAt(right(8), 3, "(..)"))
	fails[string](t, "5 and 4 carets")(impl.GraftAt(right(5), 5, right(4)))
	fails[string](t, "8 and 8 carets")(impl.GraftAt(right(8), 0, right(8)))
}

func TestJoinCommonAndPart(t *testing.T) {
	gives(t, "the join", "((..)(..))")(impl.JoinTrees("((..).)", "(.(..))"))
	gives(t, "the common tree", "(..)")(impl.CommonTree("((..).)", "(.(..))"))
	trees := treesUpTo(5)
	for _, a := range trees {
		for _, b := range trees {
			first, second := modelOf(a), modelOf(b)
			call := " of " + a + " " + b
			if all := first.union(second); len(all) <= impl.MaxCarets {
				gives(t, "JoinTrees"+call, all.text())(impl.JoinTrees(a, b))
			} else {
				fails[string](t, "JoinTrees"+call)(impl.JoinTrees(a, b))
			}
			meet := first.meet(second)
			gives(t, "CommonTree"+call, meet.text())(impl.CommonTree(a, b))
			gives(t, "IsPartOf"+call, len(meet) == len(first))(impl.IsPartOf(a, b))
		}
	}
}

func TestJoinAtTheLimit(t *testing.T) {
	gives(t, "4 and 5 carets that share one", "(((((..).).).)(.(.(..))))")(impl.JoinTrees(left(5), right(4)))
	fails[string](t, "5 and 5 carets that share one")(impl.JoinTrees(left(5), right(5)))
	fails[string](t, "8 and 8 carets that share one")(impl.JoinTrees(left(8), right(8)))
	fails[string](t, "8 and 2 carets that share one")(impl.JoinTrees(left(8), right(2)))
	for _, tree := range []string{left(8), right(8), "((((..).)(..))(.((..).)))"} {
		gives(t, "JoinTrees with itself", tree)(impl.JoinTrees(tree, tree))
		gives(t, "JoinTrees with a leaf", tree)(impl.JoinTrees(".", tree))
		gives(t, "CommonTree with itself", tree)(impl.CommonTree(tree, tree))
		gives(t, "CommonTree with a leaf", ".")(impl.CommonTree(tree, "."))
		gives(t, "IsPartOf itself", true)(impl.IsPartOf(tree, tree))
		gives(t, "IsPartOf a leaf", false)(impl.IsPartOf(tree, "."))
		gives(t, "a leaf is part", true)(impl.IsPartOf(".", tree))
	}
	gives(t, "CommonTree of 8 carets", "(..)")(impl.CommonTree(left(8), right(8)))
}

func TestExposedCarets(t *testing.T) {
	gives(t, "the exposed carets of a leaf", []int{})(impl.ExposedOf("."))
	fails[string](t, "dropping a leaf")(impl.DropExposed(".", 0))
	gives(t, "the only caret dropped", ".")(impl.DropExposed("(..)", 0))
	gives(t, "the exposed caret", []int{1})(impl.ExposedOf("(.(..))"))
	for _, tree := range treesUpTo(impl.MaxCarets) {
		set := modelOf(tree)
		leaves := set.leaves()
		var want []int
		for k, a := range leaves {
			call := fmt.Sprint("DropExposed ", tree, k)
			if a == "" || a[len(a)-1] != '0' || set[a[:len(a)-1]+"1"] {
				fails[string](t, call)(impl.DropExposed(tree, k))
				continue
			}
			want = append(want, k)
			without := set.union(nil)
			delete(without, a[:len(a)-1])
			gives(t, call, without.text())(impl.DropExposed(tree, k))
		}
		gives(t, "ExposedOf "+tree, want)(impl.ExposedOf(tree))
		for _, k := range []int{-1, len(leaves), len(leaves) + 1, -1 << 63, 1<<63 - 1} {
			fails[string](t, fmt.Sprint("DropExposed ", tree, k))(impl.DropExposed(tree, k))
		}
	}
}

func TestCombs(t *testing.T) {
	gives(t, "RightComb 3", "(.(.(..)))")(impl.RightComb(3))
	gives(t, "LeftComb 3", "(((..).).)")(impl.LeftComb(3))
	for n := range impl.MaxCarets + 1 {
		gives(t, fmt.Sprint("RightComb ", n), right(n))(impl.RightComb(n))
		gives(t, fmt.Sprint("LeftComb ", n), left(n))(impl.LeftComb(n))
	}
	for _, n := range []int{-1, impl.MaxCarets + 1, -1 << 63, 1<<63 - 1} {
		fails[string](t, fmt.Sprint("RightComb ", n))(impl.RightComb(n))
		fails[string](t, fmt.Sprint("LeftComb ", n))(impl.LeftComb(n))
	}
}

func TestMirrors(t *testing.T) {
	gives(t, "MirrorTree of a leaf", ".")(impl.MirrorTree("."))
	gives(t, "MirrorTree", "((..)((..).))")(impl.MirrorTree("((.(..))(..))"))
	for _, tree := range treesUpTo(impl.MaxCarets) {
		gives(t, "MirrorTree "+tree, modelOf(tree).mirror().text())(impl.MirrorTree(tree))
	}
}

func TestAllTreesAndTheirNumber(t *testing.T) {
	counts := []int{1, 1, 2, 5, 14, 42, 132, 429, 1430}
	for n := range 6 {
		gives(t, fmt.Sprint("AllTrees ", n), treesWith(n))(impl.AllTrees(n))
	}
	for n, count := range counts {
		gives(t, fmt.Sprint("CountTrees ", n), count)(impl.CountTrees(n))
	}
	for _, n := range []int{-1, 6, impl.MaxCarets, impl.MaxCarets + 1, -1 << 63, 1<<63 - 1} {
		fails[[]string](t, fmt.Sprint("AllTrees ", n))(impl.AllTrees(n))
	}
	for _, n := range []int{-1, impl.MaxCarets + 1, -1 << 63, 1<<63 - 1} {
		fails[int](t, fmt.Sprint("CountTrees ", n))(impl.CountTrees(n))
	}
}

func TestRanks(t *testing.T) {
	for n := range impl.MaxCarets + 1 {
		trees := treesWith(n)
		for rank, tree := range trees {
			gives(t, "RankTree "+tree, rank)(impl.RankTree(tree))
			gives(t, fmt.Sprint("TreeAt ", n, rank), tree)(impl.TreeAt(n, rank))
		}
		for _, rank := range []int{-1, len(trees), len(trees) + 1, -1 << 63, 1<<63 - 1} {
			fails[string](t, fmt.Sprint("TreeAt ", n, rank))(impl.TreeAt(n, rank))
		}
	}
	for _, n := range []int{-1, impl.MaxCarets + 1, -1 << 63, 1<<63 - 1} {
		fails[string](t, fmt.Sprint("TreeAt ", n, 0))(impl.TreeAt(n, 0))
	}
}
