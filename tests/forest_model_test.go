package tests

import (
	"maps"
	"slices"
	"strings"
	"sync"
	"testing"

	"loop.example/g01161/impl"
)

// spot is a place in a forest: the number of a tree, and an address in it.
type spot struct {
	tree int
	at   string
}

// forest is a forest, of any size, as the set of the spots of its carets: a second way to tell forests, against which
// the program is held. Nothing stands for leaves alone, in front of carets or behind them.
type forest map[spot]bool

// forestOf reads texts that are known to be trees.
func forestOf(list []string) forest {
	f := forest{}
	for i, tree := range list {
		for at := range modelOf(tree) {
			f[spot{i, at}] = true
		}
	}
	return f
}

// listed reads a text of a forest that a test has written, and splits it: - is for no trees.
func listed(text string) []string {
	if text == "-" {
		return nil
	}
	return strings.Split(text, " ")
}

func (f forest) treeAt(i int) carets {
	set := carets{}
	for s := range f {
		if s.tree == i {
			set[s.at] = true
		}
	}
	return set
}

// size is the number of trees up to the last one with a caret.
func (f forest) size() int {
	size := 0
	for s := range f {
		size = max(size, s.tree+1)
	}
	return size
}

func (f forest) list() []string {
	var list []string
	for i := range f.size() {
		list = append(list, f.treeAt(i).text())
	}
	return list
}

// text is the text of the forest, of any size.
func (f forest) text() string {
	if len(f) == 0 {
		return "-"
	}
	return strings.Join(f.list(), " ")
}

// fitting returns the list of the forest if it is within both limits.
func (f forest) fitting() ([]string, bool) {
	if f.size() > 8 || len(f) > 8 {
		return nil, false
	}
	return f.list(), true
}

// leaves returns the spots of the leaves of all trees up to the last one with a caret.
func (f forest) leaves() []spot {
	var list []spot
	for i := range f.size() {
		for _, at := range f.treeAt(i).leaves() {
			list = append(list, spot{i, at})
		}
	}
	return list
}

// leafAt is the spot of a leaf, which may be one of those alone.
func (f forest) leafAt(k int) spot {
	leaves := f.leaves()
	if k < len(leaves) {
		return leaves[k]
	}
	return spot{f.size() + k - len(leaves), ""}
}

// stack puts each caret of another forest above the leaf with the number of its tree.
func (f forest) stack(other forest) forest {
	both := maps.Clone(f)
	for s := range other {
		leaf := f.leafAt(s.tree)
		both[spot{leaf.tree, leaf.at + s.at}] = true
	}
	return both
}

func (f forest) union(other forest) forest {
	both := maps.Clone(f)
	maps.Copy(both, other)
	return both
}

func (f forest) meet(other forest) forest {
	both := maps.Clone(f)
	maps.DeleteFunc(both, func(s spot, _ bool) bool { return !other[s] })
	return both
}

func (f forest) isPartOf(other forest) bool { return len(f.meet(other)) == len(f) }

// quotient tells for each caret of a greater forest that f has not above which of the leaves of f it is, and where there.
func (f forest) quotient(greater forest) forest {
	rest := forest{}
	for s := range greater {
		for k := 0; !f[s]; k++ {
			leaf := f.leafAt(k)
			if at, ok := strings.CutPrefix(s.at, leaf.at); ok && leaf.tree == s.tree {
				rest[spot{k, at}] = true
				break
			}
		}
	}
	return rest
}

// grown adds a caret at one leaf after another.
func grown(word []int) forest {
	f := forest{}
	for _, letter := range word {
		f[f.leafAt(letter-1)] = true
	}
	return f
}

// word goes up from each leaf over left sides.
func (f forest) word() []int {
	var w []int
	for k, leaf := range f.leaves() {
		above := leaf.at
		for strings.HasSuffix(above, "0") {
			above = strings.TrimSuffix(above, "0")
			w = append(w, up(k))
		}
	}
	return w
}

// rules are those of the pair of the forest, which need not be within the limit.
func (f forest) rules() rules {
	r := rules{}
	leaves := f.leaves()
	for k, leaf := range leaves {
		r[strings.Repeat("1", leaf.tree)+"0"+leaf.at] = strings.Repeat("1", k) + "0"
	}
	r[strings.Repeat("1", f.size())] = strings.Repeat("1", len(leaves))
	return r
}

// hanging tells what hangs at the left sides of the right side of a tree, by the first 0 in the addresses of its carets.
func hanging(tree string) forest {
	f := forest{}
	for at := range modelOf(tree) {
		if i := strings.Index(at, "0"); i >= 0 {
			f[spot{i, at[i+1:]}] = true
		}
	}
	return f
}

// forestsUpTo returns all forests of so many trees with so many carets together.
func forestsUpTo(trees int, carets int) []forest {
	list := []forest{{}}
	for i := range trees {
		var next []forest
		for _, f := range list {
			for _, tree := range treesUpTo(carets - len(f)) {
				g := maps.Clone(f)
				for at := range modelOf(tree) {
					g[spot{i, at}] = true
				}
				next = append(next, g)
			}
		}
		list = next
	}
	return list
}

// greatForests are such as have many carets or many trees, or just as many as may be.
func greatForests() []forest {
	var list []forest
	for _, text := range []string{
		right(8), left(8), right(7), left(7), ". " + right(8), ". . . . . . . " + left(8), right(7) + " (..)", left(7) + " (..)",
		"(..) . . . . . . (..)", left(7) + " . . . . . . (..)", right(7) + " . . . . . . (..)", ". . . . . . . (..)", ". . . . . . (..)", "(..) (..) (..) (..)",
		"(..) (..) (..) (..) (..) (..) (..) (..)", ". (..) . ((..)(..)) . (.(..)) . ((..).)", "((..)(..)) . ((..)(..))", "(((..).).) . (.(.(..)))", ". . (.((..).)) . . (..)",
	} {
		list = append(list, forestOf(listed(text)))
	}
	return list
}

// someForests are forests within both limits without any order that is easy to see.
var someForests = sync.OnceValue(func() []forest {
	list := greatForests()
	for length := 1; length <= 8; length++ {
		for last := 1; last <= 14; last += 3 {
			for _, w := range someWords(length, last, 6) {
				for k := range w {
					w[k] = max(w[k], -w[k])
				}
				if f := grown(w); f.size() <= 8 {
					list = append(list, f)
				}
			}
		}
	}
	return list
})

// manyForests are all small ones and some greater ones.
func manyForests() []forest { return slices.Concat(forestsUpTo(4, 4), someForests()) }

// fewForests are so few that all pairs of them can be tried.
func fewForests() []forest { return slices.Concat(forestsUpTo(3, 3), someForests()) }

// makes checks a call that gives a forest against the model: it has to fail just if that is beyond a limit.
func makes(t *testing.T, call string, want forest) func(got []string, ok bool) {
	return func(got []string, ok bool) {
		t.Helper()
		if list, fine := want.fitting(); ok != fine || !slices.Equal(got, list) {
			t.Errorf("%s is %q, %v, not %q, %v", call, got, ok, list, fine)
		}
	}
}

// TestForestModel checks the model itself.
func TestForestModel(t *testing.T) {
	if impl.MaxForest != 8 {
		t.Error("MaxForest", impl.MaxForest)
	}
	for _, text := range []string{"-", "(..)", ". (..)", "((..).) . . (.(..))", "(..) (..)"} {
		if got := forestOf(listed(text)).text(); got != text {
			t.Error("model of", text, got)
		}
	}
	for _, f := range manyForests() {
		if grown(f.word()).text() != f.text() || len(f.word()) != len(f) {
			t.Error("word of", f.text(), f.word())
		}
		if f.stack(forest{}).text() != f.text() || (forest{}).stack(f).text() != f.text() {
			t.Error("stack of", f.text())
		}
		if p := f.rules(); p.inverse().then(p).pair() != impl.IdentityPair() || hanging(p.pair().From).text() != f.text() {
			t.Error("rules of", f.text())
		}
	}
	if n := len(forestsUpTo(2, 2)); n != 8 {
		t.Error("forests of two trees", n)
	}
	if n := len(someForests()); n < 100 {
		t.Error("greater forests", n)
	}
}
