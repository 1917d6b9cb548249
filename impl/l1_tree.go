package impl

import (
	"slices"
	"strings"
)

const MaxCarets = 8

const (
	// longestTree is the length of the text of a tree with MaxCarets carets: a leaf is one byte, and each caret adds three.
	longestTree = 3*MaxCarets + 1
	// mostListed is the greatest number of carets of which AllTrees lists the trees.
	mostListed  = 5
	leafText    = "."
	exposedText = "(" + leafText + leafText + ")"
)

// node is a place in a tree. A leaf has no sides, a caret has both. Nodes are never changed, so trees may share them.
type node struct {
	left  *node
	right *node
}

func (n *node) isLeaf() bool { return n.left == nil }

func (n *node) leftSide() *node { return n.left }

func (n *node) rightSide() *node { return n.right }

// sideFor returns the way from a caret to the side that a letter of an address names, or nil for any other byte.
func (n *node) sideFor(letter byte) func() *node {
	switch letter {
	case '0':
		return n.leftSide
	case '1':
		return n.rightSide
	}
	return nil
}

// at returns the place with an address, or nil.
func (n *node) at(address string) *node {
	for i := range len(address) {
		side := n.sideFor(address[i])
		if side == nil || n.isLeaf() {
			return nil
		}
		n = side()
	}
	return n
}

func (n *node) text() string {
	if n.isLeaf() {
		return leafText
	}
	return "(" + n.left.text() + n.right.text() + ")"
}

func (n *node) addressesFrom(here string) []string {
	if n.isLeaf() {
		return []string{here}
	}
	return append(n.left.addressesFrom(here+"0"), n.right.addressesFrom(here+"1")...)
}

func (n *node) mirrored() *node {
	if n.isLeaf() {
		return n
	}
	return &node{left: n.right.mirrored(), right: n.left.mirrored()}
}

// readTree returns the whole of a tree. It checks the length first, since a long text could nest calls without end.
func readTree(t string) (*node, bool) {
	if len(t) > longestTree {
		return nil, false
	}
	n, rest := readPlace(t)
	if n == nil || rest != "" {
		return nil, false
	}
	return n, true
}

// readTrees reads two trees.
func readTrees(a string, b string) (*node, *node, bool) {
	first, ok := readTree(a)
	if !ok {
		return nil, nil, false
	}
	second, ok := readTree(b)
	if !ok {
		return nil, nil, false
	}
	return first, second, true
}

// readPlace returns the tree with which a text begins and what is behind it, or nil if there is none.
func readPlace(t string) (*node, string) {
	if rest, ok := strings.CutPrefix(t, leafText); ok {
		return &node{}, rest
	}
	rest, ok := strings.CutPrefix(t, "(")
	if !ok {
		return nil, ""
	}
	left, rest := readPlace(rest)
	if left == nil {
		return nil, ""
	}
	right, rest := readPlace(rest)
	if right == nil {
		return nil, ""
	}
	rest, ok = strings.CutPrefix(rest, ")")
	if !ok {
		return nil, ""
	}
	return &node{left: left, right: right}, rest
}

// nodeWith returns the place here whose leaves have the first addresses of a list, and the other addresses, or nil if there is none.
func nodeWith(list []string, here string) (*node, []string) {
	if len(list) == 0 || !strings.HasPrefix(list[0], here) {
		return nil, nil
	}
	if list[0] == here {
		return &node{}, list[1:]
	}
	left, list := nodeWith(list, here+"0")
	if left == nil {
		return nil, nil
	}
	right, list := nodeWith(list, here+"1")
	if right == nil {
		return nil, nil
	}
	return &node{left: left, right: right}, list
}

func join(a *node, b *node) *node {
	if a.isLeaf() {
		return b
	}
	if b.isLeaf() {
		return a
	}
	return &node{left: join(a.left, b.left), right: join(a.right, b.right)}
}

func common(a *node, b *node) *node {
	if a.isLeaf() || b.isLeaf() {
		return &node{}
	}
	return &node{left: common(a.left, b.left), right: common(a.right, b.right)}
}

func isPart(a *node, b *node) bool {
	if a.isLeaf() {
		return true
	}
	return !b.isLeaf() && isPart(a.left, b.left) && isPart(a.right, b.right)
}

// withinLimit returns the text of a tree if it has no more than MaxCarets carets.
func withinLimit(t string) (string, bool) {
	if len(t) > longestTree {
		return "", false
	}
	return t, true
}

// countCarets counts the carets of a text that is known to be a tree.
func countCarets(t string) int { return strings.Count(t, "(") }

// leafPlace returns where a leaf is in the text of a tree, or -1.
func leafPlace(t string, leaf int) int {
	for i := range len(t) {
		if t[i] != leafText[0] {
			continue
		}
		if leaf == 0 {
			return i
		}
		leaf--
	}
	return -1
}

// exposedIn returns the numbers of the left leaves of all exposed carets of a text that is known to be a tree, of any size.
func exposedIn(t string) []int {
	var exposed []int
	leaf := 0
	for i := range len(t) {
		if strings.HasPrefix(t[i:], exposedText) {
			exposed = append(exposed, leaf)
		}
		if t[i] == leafText[0] {
			leaf++
		}
	}
	return exposed
}

// withoutExposed returns a tree of any size without the exposed caret whose left leaf is given, if there is one.
func withoutExposed(t string, leaf int) (string, bool) {
	// The left leaf of an exposed caret is one byte behind the start of the caret.
	start := leafPlace(t, leaf) - 1
	if start < 0 || !strings.HasPrefix(t[start:], exposedText) {
		return "", false
	}
	return t[:start] + leafText + t[start+len(exposedText):], true
}

// comb returns a comb with n carets, in which under puts the tree made so far under one more caret.
func comb(n int, under func(t string) string) (string, bool) {
	if n < 0 || n > MaxCarets {
		return "", false
	}
	t := leafText
	for range n {
		t = under(t)
	}
	return t, true
}

// countLists returns how many lists of so many trees, at least one, have so many carets together.
func countLists(trees int, carets int) int {
	// By the cycle lemma, of the places at which a circle of such carets and leaves
	// can be cut, as many as there are trees make it such a list.
	places := 2*carets + trees
	count := 1
	for k := range carets {
		count = count * (places - k) / (k + 1)
	}
	return count * trees / places
}

// walk is a way along a tree from the left: how many trees are still to be told, how many carets these
// have together, and how many trees, among those that are the same up to here, are in front.
type walk struct {
	trees  int
	carets int
	rank   int
}

// inFront returns how many trees have a caret where the walk is: they are in front of those with a leaf there.
func (w *walk) inFront() int {
	if w.carets == 0 {
		return 0
	}
	return countLists(w.trees+1, w.carets-1)
}

func (w *walk) passCaret() {
	w.trees++
	w.carets--
}

func (w *walk) passLeaf() { w.trees-- }

// next returns the tree at which the walk is, chosen by the rank that is left, and goes behind it.
func (w *walk) next() *node {
	before := w.inFront()
	if w.rank >= before {
		w.rank -= before
		w.passLeaf()
		return &node{}
	}
	w.passCaret()
	left := w.next()
	return &node{left: left, right: w.next()}
}

// IsTree reports whether t is a tree.
func IsTree(t string) bool {
	_, ok := readTree(t)
	return ok
}

// CaretsOf returns the number of carets.
func CaretsOf(t string) (int, bool) {
	if !IsTree(t) {
		return 0, false
	}
	return countCarets(t), true
}

// AddressesOf returns the addresses of all leaves, in order.
func AddressesOf(t string) ([]string, bool) {
	n, ok := readTree(t)
	if !ok {
		return nil, false
	}
	return n.addressesFrom(""), true
}

// TreeWith returns the tree with such addresses, at most MaxCarets + 1 of them. It fails if there is none.
func TreeWith(addresses []string) (string, bool) {
	if len(addresses) > MaxCarets+1 {
		return "", false
	}
	for _, a := range addresses {
		if len(a) > MaxCarets {
			return "", false
		}
	}
	n, rest := nodeWith(addresses, "")
	if n == nil || len(rest) > 0 {
		return "", false
	}
	return n.text(), true
}

// DepthsOf returns the lengths of the addresses of all leaves, in order.
func DepthsOf(t string) ([]int, bool) {
	if !IsTree(t) {
		return nil, false
	}
	var depths [MaxCarets + 1]int
	leaf, depth := 0, 0
	for i := range len(t) {
		switch t[i] {
		case '(':
			depth++
		case ')':
			depth--
		default:
			depths[leaf] = depth
			leaf++
		}
	}
	return slices.Clone(depths[:leaf]), true
}

// SubtreeAt returns the tree at an address. It fails if there is no place.
func SubtreeAt(t string, address string) (string, bool) {
	n, ok := readTree(t)
	if !ok {
		return "", false
	}
	place := n.at(address)
	if place == nil {
		return "", false
	}
	return place.text(), true
}

// GraftAt returns the tree with another one in place of a leaf. It fails if there are too many carets.
func GraftAt(t string, leaf int, other string) (string, bool) {
	if !IsTree(t) || !IsTree(other) {
		return "", false
	}
	i := leafPlace(t, leaf)
	if i < 0 {
		return "", false
	}
	return withinLimit(t[:i] + other + t[i+1:])
}

// JoinTrees returns the tree with the fewest carets of which both are part. It fails if there are too many.
func JoinTrees(a string, b string) (string, bool) {
	first, second, ok := readTrees(a, b)
	if !ok {
		return "", false
	}
	return withinLimit(join(first, second).text())
}

// CommonTree returns the tree with the most carets that is part of both.
func CommonTree(a string, b string) (string, bool) {
	first, second, ok := readTrees(a, b)
	if !ok {
		return "", false
	}
	return common(first, second).text(), true
}

// IsPartOf reports whether a is part of b.
func IsPartOf(a string, b string) (bool, bool) {
	first, second, ok := readTrees(a, b)
	if !ok {
		return false, false
	}
	return isPart(first, second), true
}

// ExposedOf returns the numbers of the left leaves of all exposed carets, increasing.
func ExposedOf(t string) ([]int, bool) {
	if !IsTree(t) {
		return nil, false
	}
	return exposedIn(t), true
}

// DropExposed returns the tree with a leaf in place of the exposed caret whose left leaf is given. It fails for others.
func DropExposed(t string, leaf int) (string, bool) {
	if !IsTree(t) {
		return "", false
	}
	return withoutExposed(t, leaf)
}

// RightComb returns the tree with n carets, n in 0..MaxCarets, each one but the first the right side of another one.
func RightComb(n int) (string, bool) {
	return comb(n, func(t string) string { return "(" + leafText + t + ")" })
}

// LeftComb returns that in which each is the left side of another one.
func LeftComb(n int) (string, bool) {
	return comb(n, func(t string) string { return "(" + t + leafText + ")" })
}

// MirrorTree returns the tree with the sides of all carets exchanged.
func MirrorTree(t string) (string, bool) {
	n, ok := readTree(t)
	if !ok {
		return "", false
	}
	return n.mirrored().text(), true
}

// AllTrees returns all trees with n carets, n in 0..5, in order.
func AllTrees(n int) ([]string, bool) {
	if n < 0 || n > mostListed {
		return nil, false
	}
	var trees []string
	for rank := range countLists(1, n) {
		w := walk{trees: 1, carets: n, rank: rank}
		trees = append(trees, w.next().text())
	}
	return trees, true
}

// CountTrees returns how many there are, n in 0..MaxCarets.
func CountTrees(n int) (int, bool) {
	if n < 0 || n > MaxCarets {
		return 0, false
	}
	return countLists(1, n), true
}

// RankTree returns the rank of a tree among those with as many carets.
func RankTree(t string) (int, bool) {
	if !IsTree(t) {
		return 0, false
	}
	w := walk{trees: 1, carets: countCarets(t)}
	for i := range len(t) {
		switch t[i] {
		case '(':
			w.passCaret()
		case leafText[0]:
			w.rank += w.inFront()
			w.passLeaf()
		}
	}
	return w.rank, true
}

// TreeAt returns the tree with n carets, n in 0..MaxCarets, with a rank. It fails if there is none.
func TreeAt(n int, rank int) (string, bool) {
	count, ok := CountTrees(n)
	if !ok || rank < 0 || rank >= count {
		return "", false
	}
	w := walk{trees: 1, carets: n, rank: rank}
	return w.next().text(), true
}
