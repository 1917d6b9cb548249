package tests

import (
	"cmp"
	"fmt"
	"maps"
	"slices"
	"strings"
	"sync"
	"testing"

	"loop.example/g01161/impl"
)

// Lengths in two ways, against which the program is held: by a search letter by letter among rules, which knows nothing of kinds,
// and by kinds that are told by addresses, for rules of any size.

// farthest is the number of letters up to which the search goes.
const farthest = 6

// found is what the search knows of a pair: its first shortest word, and how many such words there are.
type found struct {
	rules rules
	word  []int
	ways  int
}

// searched returns all that the search finds, by pairs of any size.
var searched = sync.OnceValue(func() map[impl.Pair]*found {
	last := []*found{{rules: identity(), ways: 1}}
	all := map[impl.Pair]*found{identity().pair(): last[0]}
	for range farthest {
		var next []*found
		// These are in the order of their words, so that each pair is found by its first word first.
		for _, f := range last {
			for _, letter := range letters(1) {
				r := f.rules.then(rulesOfWord([]int{letter}))
				g := all[r.pair()]
				if g == nil {
					g = &found{rules: r, word: append(slices.Clone(f.word), letter)}
					all[r.pair()] = g
					next = append(next, g)
				}
				if len(g.word) == len(f.word)+1 {
					g.ways += f.ways
				}
			}
		}
		last = next
	}
	return all
})

// searchedAt returns the pairs of one length that the search finds, in the order of their texts.
func searchedAt(length int) []impl.Pair {
	var list []impl.Pair
	for p, f := range searched() {
		if len(f.word) == length {
			list = append(list, p)
		}
	}
	slices.SortFunc(list, func(p impl.Pair, q impl.Pair) int { return cmp.Compare(p.From+">"+p.To, q.From+">"+q.To) })
	return list
}

// searchedLength returns the length, up to twice farthest, of rules: their shortest words are two of those that the search finds.
func searchedLength(r rules) (int, bool) {
	least := 2*farthest + 1
	for _, f := range searched() {
		if rest := searched()[f.rules.inverse().then(r).pair()]; rest != nil {
			least = min(least, len(f.word)+len(rest.word))
		}
	}
	return least, least <= 2*farthest
}

// kind returns the kind of the caret with an address by what is below it.
func (set carets) kind(address string) string {
	behind := set.textAt(address + "1")
	switch onLeft, onRight := strings.Trim(address, "0") == "", strings.Trim(address, "1") == ""; {
	case onLeft && !set[address+"0"]:
		return "L0"
	case onLeft:
		return "LL"
	case onRight && behind == right(strings.Count(behind, "(")):
		return "R0"
	case onRight && set[address+"10"]:
		return "RI"
	case onRight:
		return "RN"
	case behind == ".":
		return "I0"
	}
	return "IR"
}

// kinds returns the kinds of all carets in the order of the places where their sides meet.
func (set carets) kinds() []string {
	middle := func(a string) float64 { return number(a) + width(a)/2 }
	var list []string
	for _, a := range slices.SortedFunc(maps.Keys(set), func(a string, b string) int { return cmp.Compare(middle(a), middle(b)) }) {
		list = append(list, set.kind(a))
	}
	return list
}

// kindTable is the document's table.
const kindTable = `R0 RN RI LL I0 IR
R0 0 2 2 1 1 3
RN 2 2 2 1 1 3
RI 2 2 2 1 3 3
LL 1 1 1 2 2 2
I0 1 1 3 2 2 4
IR 3 3 3 2 4 4`

// kindLengths returns the numbers of the table, and that of L0, by two kinds with a blank between them.
var kindLengths = sync.OnceValue(func() map[string]int {
	lines := strings.Split(kindTable, "\n")
	columns := strings.Fields(lines[0])
	numbers := map[string]int{"L0 L0": 0}
	for _, line := range lines[1:] {
		row := strings.Fields(line)
		for k, column := range columns {
			numbers[row[0]+" "+column] = int(row[k+1][0] - '0')
		}
	}
	return numbers
})

// length returns the length of rules by the kinds of the carets of both trees.
func (r rules) length() int {
	p := r.reduced().pair()
	to := modelOf(p.To).kinds()
	sum := 0
	for k, kind := range modelOf(p.From).kinds() {
		sum += kindLengths()[kind+" "+to[k]]
	}
	return sum
}

// nextLengths returns the lengths behind each letter.
func (r rules) nextLengths() []int {
	var list []int
	for _, letter := range letters(1) {
		list = append(list, r.then(rulesOfWord([]int{letter})).length())
	}
	return list
}

// openings returns the letters with which shortest words for rules begin, in order.
func (r rules) openings() []int {
	var list []int
	length := r.length()
	for _, letter := range letters(1) {
		if r.without(letter).length() < length {
			list = append(list, letter)
		}
	}
	return list
}

// without returns the rules that are left behind a first letter.
func (r rules) without(letter int) rules { return rulesOfWord([]int{-letter}).then(r) }

// firstWord returns the first of all shortest words.
func (r rules) firstWord() []int {
	var w []int
	for r.length() > 0 {
		letter := r.openings()[0]
		w = append(w, letter)
		r = r.without(letter)
	}
	return w
}

// ways returns how many shortest words there are.
func (r rules) ways() int {
	if r.length() == 0 {
		return 1
	}
	count := 0
	for _, letter := range r.openings() {
		count += r.without(letter).ways()
	}
	return count
}

// deadEnds are all reduced pairs with up to 8 carets that no letter makes longer; they have the length 11.
func deadEnds() []impl.Pair {
	var list []impl.Pair
	for _, text := range []string{
		"((((..).).)(.(.(.(..)))))>((.(..))((..)(.((..).))))",
		"((((..).).)(.(.((..).))))>((.(..))((..)(.(.(..)))))",
		"(((.(..)).)(.(.(.(..)))))>(((..).)((..)(.((..).))))",
		"(((.(..)).)(.(.((..).))))>(((..).)((..)(.(.(..)))))",
	} {
		list = append(list, pair(text))
	}
	return list
}

// TestLengthModel checks the model itself: what the search finds has the length that kinds tell.
func TestLengthModel(t *testing.T) {
	for p, f := range searched() {
		if r := rulesOf(p); r.length() != len(f.word) || rulesOfWord(f.word).pair() != p {
			t.Error("length of", p, r.length(), f.word)
		}
	}
	var sizes []int
	for length := range farthest + 1 {
		sizes = append(sizes, len(searchedAt(length)))
	}
	if text := fmt.Sprint(sizes); text != "[1 4 12 36 108 314 906]" {
		t.Error("spheres", text)
	}
	for _, p := range reducedUpTo(3) {
		r := rulesOf(p)
		f := searched()[p]
		if f == nil || !slices.Equal(f.word, r.firstWord()) || f.ways != r.ways() {
			t.Error("words for", p, f, r.firstWord(), r.ways())
		}
	}
	if list := modelOf("((..)((..).))").kinds(); fmt.Sprint(list) != "[L0 LL I0 R0]" || len(kindLengths()) != 37 {
		t.Error("kinds", list)
	}
}
