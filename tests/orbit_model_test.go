package tests

import (
	"fmt"
	"math/big"
	"slices"
	"strings"
	"testing"

	"loop.example/g01161/impl"
)

// What pairs fix and move, by addresses without end and exact numbers: a second way to tell it, against which the program is held.

// stretch is both ends of an interval.
type stretch [2]*big.Rat

func (s stretch) half() *big.Rat {
	sum := new(big.Rat).Add(s[0], s[1])
	return sum.Mul(sum, big.NewRat(1, 2))
}

func exact(x float64) *big.Rat { return new(big.Rat).SetFloat64(x) }

// interval returns the interval of an address.
func interval(address string) stretch {
	return stretch{exact(number(address)), exact(number(address) + width(address))}
}

// repeated returns the number of an address with some letters behind it that are repeated without end.
func repeated(address string, letters string) *big.Rat {
	// As 0.999.. is 9/9, the letters are so many of 2^k - 1.
	all := big.NewInt(1)
	all.Sub(all.Lsh(all, uint(len(letters))), big.NewInt(1))
	part := new(big.Rat).SetFrac(all, big.NewInt(1))
	part.Quo(exact(number(letters)/width(letters)), part)
	part.Mul(part, exact(width(address)))
	return part.Add(part, exact(number(address)))
}

// fixedByRule returns what a rule fixes: all if it exchanges nothing; one number if of both addresses one is the beginning of
// the other one, since the letters behind it can be put there again and again; nothing otherwise.
func fixedByRule(a string, b string) []stretch {
	if a == b {
		return []stretch{interval(a)}
	}
	if len(a) > len(b) {
		a, b = b, a
	}
	letters, ok := strings.CutPrefix(b, a)
	if !ok {
		return nil
	}
	x := repeated(a, letters)
	return []stretch{{x, x}}
}

// fixed returns all intervals that the rules fix, in order.
func (r rules) fixed() []stretch {
	var all []stretch
	for a, b := range r {
		all = append(all, fixedByRule(a, b)...)
	}
	// Of a number and an interval that begins with it, the number comes first.
	slices.SortFunc(all, func(s stretch, o stretch) int {
		if c := s[0].Cmp(o[0]); c != 0 {
			return c
		}
		return s[1].Cmp(o[1])
	})
	list := all[:1:1]
	for _, s := range all[1:] {
		if last := &list[len(list)-1]; s[0].Cmp(last[1]) == 0 {
			last[1] = s[1]
		} else {
			list = append(list, s)
		}
	}
	return list
}

// moved returns what is between all that the rules fix.
func (r rules) moved() []stretch {
	var list []stretch
	fixed := r.fixed()
	for k := range fixed[1:] {
		list = append(list, stretch{fixed[k][1], fixed[k+1][0]})
	}
	return list
}

// valueOfExact returns to what the rules carry an exact number.
func (r rules) valueOfExact(x *big.Rat) *big.Rat {
	for a, b := range r {
		if from := interval(a); from[0].Cmp(x) <= 0 && x.Cmp(from[1]) < 0 {
			y := new(big.Rat).Sub(x, from[0])
			y.Mul(y, exact(width(b)/width(a)))
			return y.Add(y, exact(number(b)))
		}
	}
	return x
}

// directions returns where the half of each moved interval is carried.
func (r rules) directions() []int {
	var list []int
	for _, s := range r.moved() {
		list = append(list, r.valueOfExact(s.half()).Cmp(s.half()))
	}
	return list
}

// isApart reports whether no interval that these rules move has a number in common with one that others move.
func (r rules) isApart(others rules) bool {
	for _, s := range r.moved() {
		for _, o := range others.moved() {
			if s[0].Cmp(o[1]) < 0 && o[0].Cmp(s[1]) < 0 {
				return false
			}
		}
	}
	return true
}

// ratios returns the ends of intervals as the program tells them.
func ratios(list []stretch) [][]impl.Ratio {
	var all [][]impl.Ratio
	for _, s := range list {
		var ends []impl.Ratio
		for _, x := range s {
			ends = append(ends, impl.Ratio{Num: int(x.Num().Int64()), Den: int(x.Denom().Int64())})
		}
		all = append(all, ends)
	}
	return all
}

// ratiosIn reads intervals with blanks between them, each as both of its ends with a - between them, or as a single number.
func ratiosIn(text string) [][]impl.Ratio {
	var all [][]impl.Ratio
	for _, word := range strings.Fields(text) {
		start, end, several := strings.Cut(word, "-")
		if !several {
			end = start
		}
		var s stretch
		s[0], _ = new(big.Rat).SetString(start)
		s[1], _ = new(big.Rat).SetString(end)
		all = append(all, ratios([]stretch{s})...)
	}
	return all
}

// orbit returns a number and to what it is carried up to so many times, and whether all of these are fractions.
func (r rules) orbit(x float64, steps int) ([]impl.Fraction, bool) {
	var list []impl.Fraction
	for range steps + 1 {
		f, ok := fractionFor(x)
		if !ok {
			return nil, false
		}
		list = append(list, f)
		x = r.value(x)
	}
	return list, true
}

// thin returns the leaves of the tree whose carets are just those above the leaf that begins at a fraction, and the index of this leaf.
func thin(x impl.Fraction) ([]string, int) {
	set := carets{}
	for length := range 11 {
		address := places(decimal(x), length)
		if number(address) == decimal(x) {
			return set.leaves(), slices.Index(set.leaves(), address)
		}
		set[address] = true
	}
	return nil, 0
}

// extended returns leaves with those of a right comb with so many carets in place of one.
func extended(leaves []string, k int, carets int) []string {
	address := leaves[k]
	var more []string
	for n := range carets {
		more = append(more, address+strings.Repeat("1", n)+"0")
	}
	more = append(more, address+strings.Repeat("1", carets))
	return slices.Concat(leaves[:k], more, leaves[k+1:])
}

// carrier returns the rules, not reduced, that carry x to y with combs at the first and the last leaf.
func carrier(x impl.Fraction, y impl.Fraction) rules {
	from, inFrom := thin(x)
	to, inTo := thin(y)
	behind := len(from) - inFrom - (len(to) - inTo)
	from = extended(from, 0, max(inTo-inFrom, 0))
	to = extended(to, 0, max(inFrom-inTo, 0))
	from = extended(from, len(from)-1, max(-behind, 0))
	to = extended(to, len(to)-1, max(behind, 0))
	r := rules{}
	for k, a := range from {
		r[a] = to[k]
	}
	return r
}

// pieceBetween returns the rules, reduced, that do the same as others between two fixed numbers, and nothing elsewhere.
func (r rules) pieceBetween(x float64, y float64) rules {
	at := []float64{x, y}
	for _, z := range r.breaks() {
		if x < z && z < y {
			at = append(at, z)
		}
	}
	slices.Sort(at)
	at = slices.DeleteFunc(at, func(z float64) bool { return z == 0 || z == 1 })
	piece, _ := graphThrough(fractionsFor(at), fractionsFor(r.values(at))).rules()
	return piece
}

// fixedBreaks returns both ends and all breaks that are carried to themselves, increasing.
func (r rules) fixedBreaks() []float64 {
	list := []float64{0}
	for _, x := range r.breaks() {
		if r.value(x) == x {
			list = append(list, x)
		}
	}
	return append(list, 1)
}

// pieces returns all pieces of rules that do something, in order.
func (r rules) pieces() []impl.Pair {
	var list []impl.Pair
	ends := r.fixedBreaks()
	for k := range ends[1:] {
		if piece := r.pieceBetween(ends[k], ends[k+1]).pair(); piece != identity().pair() {
			list = append(list, piece)
		}
	}
	return list
}

// orders returns all orders of a list.
func orders[T any](list []T) [][]T {
	if len(list) == 0 {
		return [][]T{nil}
	}
	var all [][]T
	for k := range list {
		for _, rest := range orders(slices.Concat(list[:k], list[k+1:])) {
			all = append(all, append([]T{list[k]}, rest...))
		}
	}
	return all
}

// both makes two results one value, since the tools for checks take just one.
func both(first int, second int, ok bool) ([2]int, bool) { return [2]int{first, second}, ok }

// orbitPairs returns pairs of all kinds, whether reduced or not: among them such as fix thirds, single fractions and intervals.
func orbitPairs() []impl.Pair {
	list := somePairsOfAll()
	for _, text := range []string{
		oneThird, twoPieces, threePieces, fixedMiddle, fixedEnds, threeRatios, deepRatio,
		"(.((..).))>(.(.(..)))", "(((..).).)>((.(..)).)", "((((..).)((..).)).)>(((.(..))(.(..))).)",
		"(((..)((..).))((..).))>(((..)(.(..)))(.(..)))", "((.((..).))((..).))>((.(.(..)))((..).))",
	} {
		p := pair(text)
		list = append(list, p, impl.Pair{From: p.To, To: p.From})
	}
	return list
}

const (
	// oneThird fixes 0, 1/3 and 1 alone.
	oneThird = "(((..).)(..))>((.((..).)).)"
	// twoPieces has one piece on each half.
	twoPieces = "(((..).)((..).))>((.(..))(.(..)))"
	// threePieces has a piece on the left half and one on each quarter of the right one.
	threePieces = "(((..).)(((..).)((..).)))>((.(..))((.(..))(.(..))))"
	// fixedMiddle fixes the interval from 1/4 to 1/2 between two that it moves.
	fixedMiddle = "((((..).).)((..).))>(((.(..)).)(.(..)))"
	// fixedEnds fixes an interval at each end.
	fixedEnds = "((.((..).)).)>((.(.(..))).)"
	// threeRatios fixes 0, 7/24, 11/24, 2/3 and 1 alone.
	threeRatios = "(((..)(.(.(..))))(.(..)))>((.(((..).).))((.(..)).))"
	// deepRatio fixes 0, 145/252 and 1 alone.
	deepRatio = "(((..)(..))(.(.(.(..)))))>(.(((.(((.(..)).).)).).))"
)

// TestOrbitModel checks the model itself.
func TestOrbitModel(t *testing.T) {
	if x := repeated("01", "01"); x.Cmp(big.NewRat(1, 3)) != 0 {
		t.Error("1/3", x)
	}
	if x := repeated("0", "110"); x.Cmp(big.NewRat(3, 7)) != 0 {
		t.Error("3/7", x)
	}
	if x := fmt.Sprint(ratiosIn("0 1/4-1/2 1")); x != "[[{0 1} {0 1}] [{1 4} {1 2}] [{1 1} {1 1}]]" {
		t.Error("ratios", x)
	}
	for _, p := range orbitPairs() {
		if !impl.IsPair(p) {
			t.Error("no pair", p)
		}
		r := rulesOf(p)
		for _, s := range r.fixed() {
			if r.valueOfExact(s[0]).Cmp(s[0]) != 0 || r.valueOfExact(s[1]).Cmp(s[1]) != 0 || r.valueOfExact(s.half()).Cmp(s.half()) != 0 {
				t.Error("fixed by", p, s)
			}
		}
	}
	x, k := thin(fraction(3, 8))
	if fmt.Sprint(x, k) != "[00 010 011 1] 2" {
		t.Error("thin tree of 3/8", x, k)
	}
	if r := carrier(fraction(1, 2), fraction(3, 4)); r.pair() != generator(0).pair() {
		t.Error("carrier", r)
	}
	if list := fmt.Sprint(extended([]string{"0", "1"}, 1, 2)); list != "[0 10 110 111]" {
		t.Error("extended", list)
	}
	if list := orders([]int{1, 2, 3}); len(list) != 6 || fmt.Sprint(list[5]) != "[3 2 1]" {
		t.Error("orders", list)
	}
}
