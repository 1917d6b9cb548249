package tests

import (
	"fmt"
	"maps"
	"slices"
	"strings"
	"sync"
	"testing"

	"loop.example/g01161/impl"
)

// rotated moves the carets below an address, by the beginnings of their addresses, as a rotation there does.
func (set carets) rotated(at string) (carets, bool) {
	if !set[at] || !set[at+"0"] {
		return nil, false
	}
	moved := carets{}
	for a := range set {
		if rest, ok := strings.CutPrefix(a, at+"00"); ok {
			moved[at+"0"+rest] = true
		} else if rest, ok := strings.CutPrefix(a, at+"01"); ok {
			moved[at+"10"+rest] = true
		} else if rest, ok := strings.CutPrefix(a, at+"1"); ok {
			moved[at+"11"+rest] = true
		} else if a != at+"0" {
			moved[a] = true
		}
	}
	moved[at+"1"] = true
	return moved, true
}

// rotatedBack is a rotation seen in a mirror.
func (set carets) rotatedBack(at string) (carets, bool) {
	other, ok := set.mirror().rotated(strings.NewReplacer("0", "1", "1", "0").Replace(at))
	return other.mirror(), ok
}

// places are the addresses of all carets with a caret on the left.
func (set carets) places() []string {
	var list []string
	for a := range set {
		if set[a+"0"] {
			list = append(list, a)
		}
	}
	slices.Sort(list)
	return list
}

// chain rotates at the first place until there is none.
func (set carets) chain() []string {
	chain := []string{set.text()}
	for places := set.places(); len(places) > 0; places = set.places() {
		set, _ = set.rotated(places[0])
		chain = append(chain, set.text())
	}
	return chain
}

// spans tell a tree by the first and the last leaf below each of its carets. A rotation exchanges one span
// for another one, and trees with all spans but one in common are a rotation away from each other.
type spans map[[2]int]bool

func spansOf(t string) spans {
	set := spans{}
	var open []int
	leaf := 0
	for _, c := range t {
		switch c {
		case '(':
			open = append(open, leaf)
		case '.':
			leaf++
		case ')':
			set[[2]int{open[len(open)-1], leaf - 1}] = true
			open = open[:len(open)-1]
		}
	}
	return set
}

func (set spans) isBeside(other spans) bool {
	common := 0
	for s := range set {
		if other[s] {
			common++
		}
	}
	return common == len(set)-1
}

// spansWith are the spans of all trees with n carets, in the order of texts.
var spansWith = func() func(n int) []spans {
	var lists [impl.MaxCarets + 1]func() []spans
	for n := range lists {
		lists[n] = sync.OnceValue(func() []spans {
			var list []spans
			for _, tree := range treesWith(n) {
				list = append(list, spansOf(tree))
			}
			return list
		})
	}
	return func(n int) []spans { return lists[n]() }
}()

// besides returns all trees with as many carets that are beside a tree, in the order of texts.
func besides(t string) []string {
	var list []string
	own := spansOf(t)
	trees := treesWith(len(own))
	for k, set := range spansWith(len(own)) {
		if own.isBeside(set) {
			list = append(list, trees[k])
		}
	}
	return list
}

// distances returns how far all trees with n carets are from each other, by ways over more and more of them.
func distances(n int) map[[2]string]int {
	far := map[[2]string]int{}
	trees := treesWith(n)
	for _, a := range trees {
		for _, b := range trees {
			far[[2]string{a, b}] = 1000
		}
		for _, b := range besides(a) {
			far[[2]string{a, b}] = 1
		}
		far[[2]string{a, a}] = 0
	}
	for _, over := range trees {
		for _, a := range trees {
			for _, b := range trees {
				way := far[[2]string{a, over}] + far[[2]string{over, b}]
				far[[2]string{a, b}] = min(far[[2]string{a, b}], way)
			}
		}
	}
	return far
}

// valueOf reads a tree from the left, with the values of the sides that are behind on a stack.
func valueOf(t string, table [][]int, values []int) int {
	var stack []int
	for _, c := range t {
		switch c {
		case '.':
			stack = append(stack, values[0])
			values = values[1:]
		case ')':
			last := len(stack) - 1
			stack[last-1] = table[stack[last-1]][stack[last]]
			stack = stack[:last]
		}
	}
	return stack[0]
}

// listsBelow returns all lists of so many numbers below n, in order.
func listsBelow(n int, length int) [][]int {
	lists := [][]int{nil}
	for range length {
		var longer [][]int
		for _, list := range lists {
			for i := range n {
				longer = append(longer, append(slices.Clone(list), i))
			}
		}
		lists = longer
	}
	return lists
}

// changed returns the first numbers for which two trees have different values.
func changed(a string, b string, table [][]int) ([]int, bool) {
	for _, values := range listsBelow(len(table), strings.Count(a, ".")) {
		if valueOf(a, table, values) != valueOf(b, table, values) {
			return values, true
		}
	}
	return nil, false
}

// tableOf has what a rule gives for each two of n things.
func tableOf(n int, rule func(i int, j int) int) [][]int {
	table := make([][]int, n)
	for i := range n {
		for j := range n {
			table[i] = append(table[i], rule(i, j))
		}
	}
	return table
}

// tablesOf are all tables of n things.
func tablesOf(n int) [][][]int {
	var list [][][]int
	for _, numbers := range listsBelow(n, n*n) {
		list = append(list, slices.Collect(slices.Chunk(numbers, n)))
	}
	return list
}

// groupTables are associative, each for another reason.
func groupTables() map[string][][]int {
	return map[string][][]int{
		"one thing": {{0}}, "sums of 2": {{0, 1}, {1, 0}}, "sums of 3": {{0, 1, 2}, {1, 2, 0}, {2, 0, 1}}, "constant": {{1, 1}, {1, 1}},
		"sums of 4": tableOf(4, func(i int, j int) int { return (i + j) % 4 }), "sums of bits": tableOf(4, func(i int, j int) int { return i ^ j }),
		"products": tableOf(4, func(i int, j int) int { return i * j % 4 }), "greatest": tableOf(4, func(i int, j int) int { return max(i, j) }),
		"least": tableOf(3, func(i int, j int) int { return min(i, j) }), "first": tableOf(4, func(i int, j int) int { return i }),
		"last": tableOf(4, func(i int, j int) int { return j }), "first and last": tableOf(4, func(i int, j int) int { return i&2 | j&1 }),
	}
}

// brokenTables are not associative. In one of them the last three of all numbers are the only ones that tell it.
func brokenTables() map[string][][]int {
	return map[string][][]int{
		"nor": {{1, 0}, {0, 0}}, "implied": {{1, 1}, {0, 1}}, "not the first": {{1, 1}, {0, 0}}, "differences": tableOf(3, func(i int, j int) int { return (i - j + 3) % 3 }),
		"differences of 4": tableOf(4, func(i int, j int) int { return (i - j + 4) % 4 }), "halves": tableOf(3, func(i int, j int) int { return (2*i + 2*j) % 3 }),
		"winners": {{0, 1, 0}, {1, 1, 2}, {0, 2, 2}}, "next of the sum": tableOf(4, func(i int, j int) int { return (i + 2*j + 1) % 4 }),
		"broken at 000": {{1, 0, 0}, {1, 1, 1}, {2, 2, 2}}, "broken at 333": {{0, 0, 0, 0}, {0, 0, 0, 0}, {0, 0, 0, 0}, {0, 0, 1, 2}},
	}
}

// someTables are all of both kinds, and all of two things.
func someTables() [][][]int {
	list := tablesOf(2)
	for _, tables := range []map[string][][]int{groupTables(), brokenTables()} {
		for _, name := range slices.Sorted(maps.Keys(tables)) {
			list = append(list, tables[name])
		}
	}
	return list
}

// TestBracketModel checks the model itself.
func TestBracketModel(t *testing.T) {
	if impl.MaxSearched != 5 || impl.MaxThings != 4 {
		t.Error("MaxSearched, MaxThings", impl.MaxSearched, impl.MaxThings)
	}
	for _, c := range [][3]string{
		{"((..).)", "", "(.(..))"}, {"(((..).)(..))", "", "((..)(.(..)))"}, {"(((..).)(..))", "0", "((.(..))(..))"}, {"(.((..).))", "1", "(.(.(..)))"},
		{"(((..)(.(..)))((..).))", "", "((..)((.(..))((..).)))"},
	} {
		if got, ok := modelOf(c[0]).rotated(c[1]); !ok || got.text() != c[2] {
			t.Error("rotated", c[0], c[1], got.text(), ok)
		}
		if got, ok := modelOf(c[2]).rotatedBack(c[1]); !ok || got.text() != c[0] {
			t.Error("rotated back", c[2], c[1], got.text(), ok)
		}
	}
	if text := fmt.Sprint(modelOf("(((..).)((..).))").places(), modelOf("((..).)").chain(), besides("((..)(..))")); text != "[ 0 1] [((..).) (.(..))] [(((..).).) (.(.(..)))]" {
		t.Error("places, chain and trees beside", text)
	}
	if far := distances(4); far[[2]string{left(4), right(4)}] != 3 || slices.Max(slices.Collect(maps.Values(far))) != 4 {
		t.Error("distances", far)
	}
	nor := [][]int{{1, 0}, {0, 0}}
	if a, b := valueOf("((..).)", nor, []int{0, 0, 1}), valueOf("(.(..))", nor, []int{0, 0, 1}); a != 0 || b != 1 {
		t.Error("values", a, b)
	}
	if text := fmt.Sprint(listsBelow(2, 2), len(listsBelow(4, 5)), len(tablesOf(2)), tablesOf(2)[1]); text != "[[0 0] [0 1] [1 0] [1 1]] 1024 16 [[0 0] [0 1]]" {
		t.Error("lists", text)
	}
}
