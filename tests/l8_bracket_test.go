package tests

import (
	"fmt"
	"slices"
	"strings"
	"testing"

	"loop.example/g01161/impl"
)

// Promise 8: rotations lead from tree to tree, and associative tables keep values.

// shapes are all trees with at most 6 carets, and some with 8.
func shapes() []string {
	list := treesUpTo(6)
	for k, tree := range treesWith(8) {
		if k%41 == 0 {
			list = append(list, tree)
		}
	}
	return append(list, right(8), left(8), right(7), left(7))
}

// TestRotations has rotations as a hand tells them; each one back undoes one.
func TestRotations(t *testing.T) {
	for _, c := range [][3]string{
		{"((..).)", "", "(.(..))"}, {"((..)(..))", "", "(.(.(..)))"}, {"(((..).).)", "", "((..)(..))"}, {"(((..).).)", "0", "((.(..)).)"},
		{"((.(..)).)", "", "(.((..).))"}, {"(.((..).))", "1", "(.(.(..)))"}, {"(((..)(.(..)))((..).))", "", "((..)((.(..))((..).)))"},
		{"(((..)(.(..)))((..).))", "0", "((.(.(.(..))))((..).))"}, {"(((..)(.(..)))((..).))", "1", "(((..)(.(..)))(.(..)))"},
		{"((.((..).))(..))", "01", "((.(.(..)))(..))"}, {"((..)(((..).).))", "10", "((..)((.(..)).))"},
		{left(8), "", "(" + left(6) + "(..))"}, {left(8), "000000", "((((((" + "(.(..))" + ".).).).).).)"}, {"(.(.(.(.(.(.((..).)))))))", "111111", right(8)},
		{"(" + right(6) + "(..))", "", "(.(" + right(5) + "(..)))"},
	} {
		gives(t, "RotateAt "+c[0]+" "+c[1], c[2])(impl.RotateAt(c[0], c[1]))
		gives(t, "RotateBack "+c[2]+" "+c[1], c[0])(impl.RotateBack(c[2], c[1]))
	}
}

// TestTurnsThatCannotBeMade has leaves, carets with a leaf on the side in question, and addresses that lead out of the tree.
func TestTurnsThatCannotBeMade(t *testing.T) {
	for _, c := range [][2]string{
		{".", ""}, {".", "0"}, {".", "1"}, {"(..)", ""}, {"(..)", "0"}, {"(..)", "1"}, {"(..)", "00"}, {"(.(..))", ""}, {"(.(..))", "0"}, {"(.(..))", "1"},
		{"((..).)", "0"}, {"((..).)", "00"}, {"((..).)", "000"}, {"((..).)", "1"}, {"((..).)", "10"}, {"(.(.(..)))", "1"}, {"(.((..).))", ""}, {"((.(..)).)", "0"},
		{left(8), "0000000"}, {left(8), "00000000"}, {left(8), "000000000"}, {left(8), "1"}, {right(8), ""}, {right(8), "1111111"}, {right(8), "11111111"}, {right(8), "111111111"},
	} {
		fails[string](t, "RotateAt "+c[0]+" "+c[1])(impl.RotateAt(c[0], c[1]))
		fails[impl.Pair](t, "RotationPair "+c[0]+" "+c[1])(impl.RotationPair(c[0], c[1]))
		mirrored, at := modelOf(c[0]).mirror().text(), strings.NewReplacer("0", "1", "1", "0").Replace(c[1])
		fails[string](t, "RotateBack "+mirrored+" "+at)(impl.RotateBack(mirrored, at))
	}
}

// expectsTurn checks a turn against the model.
func expectsTurn(t *testing.T, call string, want carets, has bool) func(got string, ok bool) {
	return func(got string, ok bool) {
		t.Helper()
		if !has {
			fails[string](t, call)(got, ok)
			return
		}
		gives(t, call, want.text())(got, ok)
	}
}

// TestTurnsAtAllAddresses tries places and others alike: carets, leaves, addresses that lead out of the tree, and such that are none.
func TestTurnsAtAllAddresses(t *testing.T) {
	addresses := textsOf("012", 3)
	for _, a := range textsOf("01", 8) {
		if len(a) > 3 {
			addresses = append(addresses, a)
		}
	}
	for _, tree := range shapes() {
		set := modelOf(tree)
		for _, at := range addresses {
			over, ok := set.rotated(at)
			expectsTurn(t, "RotateAt "+tree+" "+at, over, ok)(impl.RotateAt(tree, at))
			if ok {
				gives(t, "RotateBack behind RotateAt "+tree+" "+at, tree)(impl.RotateBack(over.text(), at))
			}
			back, ok := set.rotatedBack(at)
			expectsTurn(t, "RotateBack "+tree+" "+at, back, ok)(impl.RotateBack(tree, at))
		}
	}
}

func TestPlacesToRotate(t *testing.T) {
	for tree, want := range map[string][]string{
		".": nil, "(..)": nil, "(.(..))": nil, right(8): nil, "((..).)": {""}, "((..)(..))": {""}, "(.((..).))": {"1"}, "(((..).).)": {"", "0"},
		"(((..).)((..).))": {"", "0", "1"}, "((((..).)((..).))((..).))": {"", "0", "00", "01", "1"}, "((.((..).))((.((..).)).))": {"", "01", "1", "101"},
		left(8): {"", "0", "00", "000", "0000", "00000", "000000"},
	} {
		gives(t, "PlacesToRotate "+tree, want)(impl.PlacesToRotate(tree))
	}
	for _, tree := range shapes() {
		gives(t, "PlacesToRotate "+tree, modelOf(tree).places())(impl.PlacesToRotate(tree))
	}
}

func TestNeighbours(t *testing.T) {
	for tree, want := range map[string][]string{
		".": nil, "(..)": nil, "((..).)": {"(.(..))"}, "(.(..))": {"((..).)"}, "((..)(..))": {"(((..).).)", "(.(.(..)))"},
		"(.(.(..)))": {"((..)(..))", "(.((..).))"}, "(((..).).)": {"((.(..)).)", "((..)(..))"},
		"(((..).)(..))": {"((((..).).).)", "((.(..))(..))", "((..)(.(..)))"},
	} {
		gives(t, "NeighboursOf "+tree, want)(impl.NeighboursOf(tree))
		gives(t, "CountRotations "+tree, len(want))(impl.CountRotations(tree))
	}
	for _, tree := range shapes() {
		want := besides(tree)
		gives(t, "NeighboursOf "+tree, want)(impl.NeighboursOf(tree))
		gives(t, "CountRotations "+tree, len(want))(impl.CountRotations(tree))
	}
	for n := range 9 {
		gives(t, "CountRotations "+right(n), max(n-1, 0))(impl.CountRotations(right(n)))
	}
}

// TestNeighboursAreReachedOnce checks that the rotations at all places and those back make all neighbours. No tree is
// reached both ways: a rotated one is behind the tree in the order of texts, one that is rotated back in front of it.
func TestNeighboursAreReachedOnce(t *testing.T) {
	for _, tree := range shapes() {
		var reached []string
		for _, at := range textsOf("01", 7) {
			if over, ok := impl.RotateAt(tree, at); ok {
				reached = append(reached, over)
				if over <= tree {
					t.Error("RotateAt", tree, at, "is in front", over)
				}
			}
			if back, ok := impl.RotateBack(tree, at); ok {
				reached = append(reached, back)
				if back >= tree {
					t.Error("RotateBack", tree, at, "is behind", back)
				}
			}
		}
		slices.Sort(reached)
		gives(t, "NeighboursOf "+tree, reached)(impl.NeighboursOf(tree))
		if len(slices.Compact(reached)) != max(strings.Count(tree, "(")-1, 0) {
			t.Error("neighbours of", tree, reached)
		}
	}
}

func TestRotationPairs(t *testing.T) {
	for _, c := range [][3]string{
		{"((..).)", "", "((..).)>(.(..))"}, {"((..)(..))", "", "((..).)>(.(..))"}, {"(((..).).)", "", "((..).)>(.(..))"}, {"(((..)(.(..)))((..).))", "", "((..).)>(.(..))"},
		{"(((..).).)", "0", "(((..).).)>((.(..)).)"}, {"(.((..).))", "1", "(.((..).))>(.(.(..)))"}, {"((..)((..).))", "1", "(.((..).))>(.(.(..)))"},
		{left(8), "000000", left(8) + ">" + "((((((" + "(.(..))" + ".).).).).).)"},
	} {
		gives(t, "RotationPair "+c[0]+" "+c[1], pair(c[2]))(impl.RotationPair(c[0], c[1]))
	}
	for i := range 7 {
		tree, _ := impl.GraftAt(right(i), i, "((..).)")
		gives(t, fmt.Sprint("RotationPair for x", i), generator(i).pair())(impl.RotationPair(tree, strings.Repeat("1", i)))
	}
	for _, tree := range shapes() {
		for _, at := range textsOf("01", 7) {
			over, ok := modelOf(tree).rotated(at)
			call := "RotationPair " + tree + " " + at
			if !ok {
				fails[impl.Pair](t, call)(impl.RotationPair(tree, at))
				continue
			}
			gives(t, call, rulesOf(impl.Pair{From: tree, To: over.text()}).reduced().pair())(impl.RotationPair(tree, at))
		}
	}
}

func TestChainsToRight(t *testing.T) {
	for tree, want := range map[string][]string{
		".": {"."}, "(..)": {"(..)"}, "(.(..))": {"(.(..))"}, right(8): {right(8)}, "((..).)": {"((..).)", "(.(..))"}, "((..)(..))": {"((..)(..))", "(.(.(..)))"},
		"(((..).).)": {"(((..).).)", "((..)(..))", "(.(.(..)))"}, "((.(..)).)": {"((.(..)).)", "(.((..).))", "(.(.(..)))"},
		"(((..)(..))((..).))": {"(((..)(..))((..).))", "((..)((..)((..).)))", "(.(.((..)((..).))))", "(.(.(.(.((..).)))))", right(6)},
	} {
		gives(t, "ChainToRight "+tree, want)(impl.ChainToRight(tree))
	}
	for n := range 9 {
		chain, ok := impl.ChainToRight(left(n))
		if !ok || len(chain) != max(n, 1) || chain[len(chain)-1] != right(n) {
			t.Error("ChainToRight", left(n), chain, ok)
		}
	}
	for _, tree := range append(shapes(), treesWith(8)...) {
		gives(t, "ChainToRight "+tree, modelOf(tree).chain())(impl.ChainToRight(tree))
	}
}

// TestChainsArePairs checks that the pairs of all rotations of a chain have the pair of its tree and the right comb as their product.
func TestChainsArePairs(t *testing.T) {
	for _, tree := range shapes() {
		chain, _ := impl.ChainToRight(tree)
		product := impl.IdentityPair()
		for _, link := range chain[:len(chain)-1] {
			places, _ := impl.PlacesToRotate(link)
			step, _ := impl.RotationPair(link, places[0])
			product, _ = impl.ProductPair(product, step)
		}
		want := rulesOf(impl.Pair{From: tree, To: right(strings.Count(tree, "("))}).reduced().pair()
		if product != want {
			t.Error("the chain of", tree, "makes", product, "not", want)
		}
	}
}

// chainBetween puts two chains together, the second one backwards.
func chainBetween(a string, b string) []string {
	chain := modelOf(a).chain()
	back := modelOf(b).chain()
	for k := len(back) - 2; k >= 0; k-- {
		chain = append(chain, back[k])
	}
	return chain
}

func TestChainsBetween(t *testing.T) {
	for _, c := range []struct {
		a, b string
		want []string
	}{
		{".", ".", []string{"."}}, {"(..)", "(..)", []string{"(..)"}}, {"(.(..))", "(.(..))", []string{"(.(..))"}}, {right(8), right(8), []string{right(8)}},
		{"((..).)", "((..).)", []string{"((..).)", "(.(..))", "((..).)"}}, {"((..).)", "(.(..))", []string{"((..).)", "(.(..))"}}, {"(.(..))", "((..).)", []string{"(.(..))", "((..).)"}},
		{"((..)(..))", "(.((..).))", []string{"((..)(..))", "(.(.(..)))", "(.((..).))"}},
		{"(((..).).)", "((.(..)).)", []string{"(((..).).)", "((..)(..))", "(.(.(..)))", "(.((..).))", "((.(..)).)"}},
	} {
		gives(t, "ChainBetween "+c.a+" and "+c.b, c.want)(impl.ChainBetween(c.a, c.b))
	}
	for n := range 6 {
		for _, a := range treesWith(n) {
			for _, b := range treesWith(n) {
				gives(t, "ChainBetween "+a+" and "+b, chainBetween(a, b))(impl.ChainBetween(a, b))
			}
		}
	}
	for _, a := range shapes() {
		for _, b := range []string{left(8), right(8), "((((..)(..))(..))((..).))"} {
			if strings.Count(a, "(") == strings.Count(b, "(") {
				gives(t, "ChainBetween "+a+" and "+b, chainBetween(a, b))(impl.ChainBetween(a, b))
			}
		}
	}
}

// TestTreesWithOtherNumbersOfCarets has two trees of which no rotations lead from one to the other.
func TestTreesWithOtherNumbersOfCarets(t *testing.T) {
	for _, a := range treesUpTo(4) {
		for _, b := range append(treesUpTo(4), right(8), left(8)) {
			if len(a) == len(b) {
				continue
			}
			fails[[]string](t, "ChainBetween "+a+" and "+b)(impl.ChainBetween(a, b))
			fails[[]string](t, "ChainBetween "+b+" and "+a)(impl.ChainBetween(b, a))
			fails[int](t, "RotationDistance "+a+" and "+b)(impl.RotationDistance(a, b))
			fails[int](t, "RotationDistance "+b+" and "+a)(impl.RotationDistance(b, a))
		}
	}
}

func TestRotationDistances(t *testing.T) {
	for n := range 6 {
		gives(t, "RotationDistance of combs "+left(n), max(n-1, 0))(impl.RotationDistance(left(n), right(n)))
		for trees, far := range distances(n) {
			gives(t, "RotationDistance "+trees[0]+" and "+trees[1], far)(impl.RotationDistance(trees[0], trees[1]))
		}
	}
	for _, trees := range [][2]string{
		{right(6), right(6)}, {left(6), left(6)}, {left(6), right(6)}, {"((..)(.(.(.(..)))))", right(6)}, {right(6), "((..)(.(.(.(..)))))"}, {right(8), right(8)}, {left(8), right(8)},
	} {
		fails[int](t, "RotationDistance "+trees[0]+" and "+trees[1])(impl.RotationDistance(trees[0], trees[1]))
	}
}

// TestWayRoundTreesWithThreeCarets goes from the left comb to the right one, two rotations on one side and three on the other one.
func TestWayRoundTreesWithThreeCarets(t *testing.T) {
	for _, way := range [][][2]string{
		{{"", "((..)(..))"}, {"", "(.(.(..)))"}},
		{{"0", "((.(..)).)"}, {"", "(.((..).))"}, {"1", "(.(.(..)))"}},
	} {
		tree := left(3)
		for _, step := range way {
			call := tree + " and " + step[1]
			gives(t, "RotateAt "+call, step[1])(impl.RotateAt(tree, step[0]))
			gives(t, "RotationDistance "+call, 1)(impl.RotationDistance(tree, step[1]))
			tree = step[1]
		}
	}
	gives(t, "RotationDistance of combs", 2)(impl.RotationDistance(left(3), right(3)))
	gives(t, "RotationDistance of trees across", 2)(impl.RotationDistance("((..)(..))", "((.(..)).)"))
}

func TestValuesOfTrees(t *testing.T) {
	nor := brokenTables()["nor"]
	for _, c := range []struct {
		tree   string
		table  [][]int
		values []int
		want   int
	}{
		{".", [][]int{{0}}, []int{0}, 0}, {".", nor, []int{0}, 0}, {".", nor, []int{1}, 1}, {"(..)", nor, []int{0, 0}, 1}, {"(..)", nor, []int{0, 1}, 0},
		{"((..).)", nor, []int{0, 0, 1}, 0}, {"(.(..))", nor, []int{0, 0, 1}, 1}, {"(..)", groupTables()["first"], []int{3, 2}, 3}, {"(..)", groupTables()["last"], []int{3, 2}, 2},
		{left(8), groupTables()["sums of 4"], []int{3, 3, 3, 3, 3, 3, 3, 3, 2}, 2}, {left(8), [][]int{{0}}, make([]int, 9), 0},
		{left(3), brokenTables()["differences of 4"], []int{3, 1, 2, 3}, 1}, {right(3), brokenTables()["differences of 4"], []int{3, 1, 2, 3}, 1},
		{right(2), brokenTables()["differences of 4"], []int{3, 1, 2}, 0}, {left(2), brokenTables()["differences of 4"], []int{3, 1, 3}, 3},
	} {
		gives(t, fmt.Sprint("ValueOfTree ", c.tree, c.table, c.values), c.want)(impl.ValueOfTree(c.tree, c.table, c.values))
	}
	for _, table := range someTables() {
		for _, tree := range treesUpTo(3) {
			for _, values := range listsBelow(len(table), strings.Count(tree, ".")) {
				gives(t, fmt.Sprint("ValueOfTree ", tree, table, values), valueOf(tree, table, values))(impl.ValueOfTree(tree, table, values))
			}
		}
		for k, tree := range treesWith(8) {
			var values []int
			for leaf := range 9 {
				values = append(values, (k+leaf*leaf+k/7*leaf)%len(table))
			}
			gives(t, fmt.Sprint("ValueOfTree ", tree, table, values), valueOf(tree, table, values))(impl.ValueOfTree(tree, table, values))
		}
	}
}

// TestAssociativeTables counts the associative tables of up to 3 things.
func TestAssociativeTables(t *testing.T) {
	for n, want := range map[int]int{1: 1, 2: 8, 3: 113} {
		count := 0
		for _, table := range tablesOf(n) {
			first, broken := changed("((..).)", "(.(..))", table)
			gives(t, fmt.Sprint("IsAssociative ", table), !broken)(impl.IsAssociative(table))
			if broken {
				gives(t, fmt.Sprint("FirstBroken ", table), first)(impl.FirstBroken(table))
				continue
			}
			fails[[]int](t, fmt.Sprint("FirstBroken ", table))(impl.FirstBroken(table))
			count++
		}
		if count != want {
			t.Error("associative tables", n, count)
		}
	}
}

func TestFirstBroken(t *testing.T) {
	for name, table := range groupTables() {
		gives(t, "IsAssociative "+name, true)(impl.IsAssociative(table))
		fails[[]int](t, "FirstBroken "+name)(impl.FirstBroken(table))
	}
	for name, want := range map[string][]int{
		"nor": {0, 0, 1}, "implied": {0, 0, 0}, "not the first": {0, 0, 0}, "differences": {0, 0, 1}, "differences of 4": {0, 0, 1}, "halves": {0, 0, 1},
		"winners": {0, 1, 2}, "next of the sum": {0, 0, 0}, "broken at 000": {0, 0, 0}, "broken at 333": {3, 3, 3},
	} {
		table := brokenTables()[name]
		gives(t, "IsAssociative "+name, false)(impl.IsAssociative(table))
		gives(t, "FirstBroken "+name, want)(impl.FirstBroken(table))
		i, j, k := want[0], want[1], want[2]
		if table[i][table[j][k]] == table[table[i][j]][k] {
			t.Error("not broken", name, want)
		}
	}
	if len(brokenTables()) != 10 {
		t.Error("broken tables", len(brokenTables()))
	}
}

// TestKeptValues has all small pairs, whether reduced or not: a pair and its reduced one need not keep values alike.
func TestKeptValues(t *testing.T) {
	for _, table := range someTables() {
		for _, p := range append(pairsUpTo(3), somePairs(4, 20)...) {
			_, change := changed(p.From, p.To, table)
			gives(t, fmt.Sprint("KeepsValues ", p, table), !change)(impl.KeepsValues(p, table))
		}
	}
	x := pair("((..).)>(.(..))")
	for _, c := range []struct {
		text, table string
		want        bool
	}{
		{".>.", "nor", true}, {"((..).)>((..).)", "nor", true}, {left(4) + ">" + left(4), "broken at 333", true}, {"((..).)>(.(..))", "nor", false},
		{"((..).)>(.(..))", "broken at 333", false}, {"(((..).).)>((..)(..))", "broken at 333", true}, {"((..)(..))>(.(.(..)))", "broken at 333", true},
		{left(4) + ">" + right(4), "broken at 333", true}, {left(4) + ">" + right(4), "differences of 4", false}, {left(4) + ">" + right(4), "next of the sum", false},
	} {
		gives(t, "KeepsValues "+c.text+" "+c.table, c.want)(impl.KeepsValues(pair(c.text), brokenTables()[c.table]))
	}
	// One leaf more makes both trees of the expanded pair keep what those of x(0) do not.
	expanded, _ := impl.ExpandPair(x, 0)
	gives(t, "KeepsValues x(0) expanded", true)(impl.KeepsValues(expanded, brokenTables()["broken at 333"]))
}

// TestKeptValuesOfManyCarets has pairs of 4 carets and of more.
func TestKeptValuesOfManyCarets(t *testing.T) {
	sums := groupTables()["sums of 4"]
	for _, p := range pairsWith(4) {
		gives(t, fmt.Sprint("KeepsValues ", p), true)(impl.KeepsValues(p, sums))
	}
	for _, p := range append(somePairs(5, 20), pair(right(5)+">"+right(5)), pair(left(5)+">"+right(5)), pair(left(8)+">"+left(8)), pair(left(8)+">"+right(8))) {
		fails[bool](t, fmt.Sprint("KeepsValues ", p))(impl.KeepsValues(p, sums))
		fails[bool](t, fmt.Sprint("KeepsValues one thing ", p))(impl.KeepsValues(p, [][]int{{0}}))
	}
}

// TestAssociativeTablesKeepValues checks that rotations keep values, and all pairs with them, just if a table is associative.
func TestAssociativeTablesKeepValues(t *testing.T) {
	x := pair("((..).)>(.(..))")
	for _, table := range append(someTables(), tablesOf(1)...) {
		is, _ := impl.IsAssociative(table)
		gives(t, fmt.Sprint("KeepsValues x(0) ", table), is)(impl.KeepsValues(x, table))
		for _, p := range append(pairsUpTo(3), somePairs(4, 40)...) {
			if is {
				gives(t, fmt.Sprint("KeepsValues ", p, table), true)(impl.KeepsValues(p, table))
			}
		}
	}
}

func TestBracketTexts(t *testing.T) {
	for _, c := range [][3]string{
		{".", "a", "a"}, {".", "z", "z"}, {"(..)", "ab", "(ab)"}, {"(..)", "ba", "(ba)"}, {"(..)", "zz", "(zz)"}, {"((..).)", "abc", "((ab)c)"}, {"(.(..))", "abc", "(a(bc))"},
		{"((..)(.(..)))", "hello", "((he)(l(lo)))"}, {right(8), "abcdefghi", "(a(b(c(d(e(f(g(hi))))))))"}, {left(8), "rstuvwxyz", "((((((((rs)t)u)v)w)x)y)z)"},
	} {
		gives(t, "BracketText "+c[0]+" "+c[1], c[2])(impl.BracketText(c[0], c[1]))
	}
	for _, tree := range shapes() {
		letters := "zyxabcmno"[:strings.Count(tree, ".")]
		want := tree
		for i := range len(letters) {
			want = strings.Replace(want, ".", letters[i:i+1], 1)
		}
		gives(t, "BracketText "+tree, want)(impl.BracketText(tree, letters))
		for n := range 12 {
			if n != len(letters) {
				fails[string](t, "BracketText "+tree)(impl.BracketText(tree, strings.Repeat("b", n)))
			}
		}
	}
	for c := range 256 {
		text := string([]byte{byte(c)})
		if 'a' <= c && c <= 'z' {
			gives(t, "BracketText "+text, "((k"+text+")m)")(impl.BracketText("((..).)", "k"+text+"m"))
			continue
		}
		for _, letters := range []string{text + "km", "k" + text + "m", "km" + text} {
			fails[string](t, fmt.Sprintf("BracketText %q", letters))(impl.BracketText("((..).)", letters))
		}
	}
}
