package tests

import (
	"cmp"
	"fmt"
	"maps"
	"slices"
	"strings"
	"testing"

	"loop.example/g01161/impl"
)

// up is the letter of x(i), down that of its inverse.
func up(i int) int { return i + 1 }

func down(i int) int { return -i - 1 }

// letters returns all letters up to those of x(last).
func letters(last int) []int {
	var list []int
	for i := range last + 1 {
		list = append(list, up(i), down(i))
	}
	return list
}

// wordsUpTo returns all words of at most n of the letters.
func wordsUpTo(n int, letters []int) [][]int {
	list := [][]int{{}}
	for first := 0; n > 0; n-- {
		last := len(list)
		for _, w := range list[first:last] {
			for _, letter := range letters {
				list = append(list, append(slices.Clone(w), letter))
			}
		}
		first = last
	}
	return list
}

// someWords returns words of so many letters up to those of x(last), without any order that is easy to see.
func someWords(length int, last int, count int) [][]int {
	all := letters(last)
	state := uint32(length*1000 + last)
	var list [][]int
	for range count {
		var w []int
		for range length {
			state = state*1664525 + 1013904223
			w = append(w, all[int(state>>16)%len(all)])
		}
		list = append(list, w)
	}
	return list
}

// manyWords returns short words of few letters, and longer ones of all letters.
func manyWords() [][]int {
	list := wordsUpTo(4, letters(2))
	for length := 3; length <= 20; length++ {
		list = append(list, someWords(length, 1, 20)...)
		list = append(list, someWords(length, 5, 20)...)
		list = append(list, someWords(length, 20, 20)...)
	}
	return list
}

// rulesOfWord returns the rules, reduced, for a word with letters of any size.
func rulesOfWord(w []int) rules {
	r := identity()
	for _, letter := range w {
		if letter > 0 {
			r = r.then(generator(letter - 1))
		} else {
			r = r.then(generator(-letter - 1).inverse())
		}
	}
	return r
}

// exponent goes up from a leaf, edge by edge, as long as these are over left sides and below the right side of the tree.
func exponent(address string) int {
	count := 0
	for {
		above, left := strings.CutSuffix(address, "0")
		if !left || strings.Trim(above, "1") == "" {
			return count
		}
		address = above
		count++
	}
}

func exponents(addresses []string) []int {
	var list []int
	for _, a := range addresses {
		list = append(list, exponent(a))
	}
	return list
}

// normal returns the normal word for rules that are reduced.
func (r rules) normal() []int {
	var w []int
	for k, e := range exponents(slices.Sorted(maps.Keys(r))) {
		w = append(w, slices.Repeat([]int{up(k)}, e)...)
	}
	to := exponents(slices.Sorted(maps.Values(r)))
	for k := len(to) - 1; k >= 0; k-- {
		w = append(w, slices.Repeat([]int{down(k)}, to[k])...)
	}
	return w
}

// changes is the list of the document's rules: what becomes of two letters. Letters of x(21) stand in it only behind rules.
func changes() map[[2]int][]int {
	table := map[[2]int][]int{}
	for n := range 21 {
		table[[2]int{up(n), down(n)}] = []int{}
		table[[2]int{down(n), up(n)}] = []int{}
		for k := range n {
			table[[2]int{up(n), up(k)}] = []int{up(k), up(n + 1)}
			table[[2]int{down(k), down(n)}] = []int{down(n + 1), down(k)}
			table[[2]int{down(k), up(n)}] = []int{up(n + 1), down(k)}
			table[[2]int{down(n), up(k)}] = []int{up(k), down(n + 1)}
		}
	}
	return table
}

// stepped returns the list behind the first change, or false if there is none.
func stepped(table map[[2]int][]int, w []int) ([]int, bool) {
	for i := 1; i < len(w); i++ {
		if two, ok := table[[2]int{w[i-1], w[i]}]; ok {
			next := append(slices.Clone(w[:i-1]), two...)
			return append(next, w[i+1:]...), true
		}
	}
	return nil, false
}

// sorted changes a word as long as that goes, and tells how often, or false if a letter gets too great.
func sorted(table map[[2]int][]int, w []int) ([]int, int, bool) {
	for steps := 0; ; steps++ {
		next, ok := stepped(table, w)
		if !ok {
			return w, steps, true
		}
		if !areLetters(next) {
			return nil, 0, false
		}
		w = next
	}
}

// areLetters tells whether all numbers are letters, however many.
func areLetters(w []int) bool {
	return !slices.ContainsFunc(w, func(letter int) bool { return letter == 0 || letter > 21 || letter < -21 })
}

// counts returns how often each letter is in a word.
func counts(w []int) map[int]int {
	count := map[int]int{}
	for _, letter := range w {
		count[letter]++
	}
	return count
}

// drops returns the numbers i, increasing, of both letters x(i) and inverses in a word that has neither of x(i + 1).
func drops(w []int) []int {
	count := counts(w)
	var list []int
	for i := range 21 {
		if count[up(i)] > 0 && count[down(i)] > 0 && count[up(i+1)]+count[down(i+1)] == 0 {
			list = append(list, i)
		}
	}
	return list
}

// isInOrder tells whether a word has first letters that do not decrease and then inverses that do not increase.
func isInOrder(w []int) bool {
	// An inverse is as far behind all letters as its number is small.
	place := func(letter int) int {
		if letter < 0 {
			return 100 + letter
		}
		return letter
	}
	return slices.IsSortedFunc(w, func(a int, b int) int { return cmp.Compare(place(a), place(b)) })
}

func isNormal(w []int) bool { return isInOrder(w) && len(drops(w)) == 0 }

// dropped returns a sorted word behind a drop of x(i).
func dropped(w []int, i int) []int {
	first := slices.Index(w, up(i)) + counts(w)[up(i)]
	var next []int
	next = append(next, w[:first-1]...)
	for _, letter := range w[first:slices.Index(w, down(i))] {
		if letter > 0 {
			next = append(next, letter-1)
		} else {
			next = append(next, letter+1)
		}
	}
	return append(next, w[slices.Index(w, down(i))+1:]...)
}

// sortedWords returns those words that no rule changes, and those to which the others lead.
func sortedWords(table map[[2]int][]int, words [][]int) [][]int {
	var list [][]int
	for _, w := range words {
		if _, changed := stepped(table, w); !changed {
			list = append(list, w)
		}
		if s, _, ok := sorted(table, w); ok {
			list = append(list, s)
		}
	}
	return list
}

// withoutPairs takes letters and inverses next to each other away, until there are none.
func withoutPairs(list []int) []int {
	for i := 0; i+1 < len(list); i++ {
		if list[i] == -list[i+1] {
			return withoutPairs(slices.Delete(slices.Clone(list), i, i+2))
		}
	}
	return list
}

// inTwo returns the list for a word of any length before it is reduced.
func inTwo(w []int) []int {
	var list []int
	for _, letter := range w {
		n, one := letter-1, 2
		if letter < 0 {
			n, one = -letter-1, -2
		}
		if n == 0 {
			list = append(list, one/2)
			continue
		}
		for range n - 1 {
			list = append(list, -1)
		}
		list = append(list, one)
		for range n - 1 {
			list = append(list, 1)
		}
	}
	return list
}

// textOfWord returns the text of letters, any number of them.
func textOfWord(w []int) string {
	text := ""
	for _, letter := range w {
		if letter > 0 {
			text += fmt.Sprintf(".x%d", letter-1)
		} else {
			text += fmt.Sprintf(".x%d'", -letter-1)
		}
	}
	if text == "" {
		return "1"
	}
	return text[1:]
}

// word reads a text of a word that a test has written.
func word(text string) []int {
	if text == "1" {
		return nil
	}
	var w []int
	for _, part := range strings.Split(text, ".") {
		var i int
		fmt.Sscanf(part, "x%d", &i)
		if strings.HasSuffix(part, "'") {
			w = append(w, down(i))
		} else {
			w = append(w, up(i))
		}
	}
	return w
}

// TestWordModel checks the model itself.
func TestWordModel(t *testing.T) {
	if !slices.Equal(word("x0.x20'.x3"), []int{1, -21, 4}) || len(word("1")) != 0 {
		t.Error("word", word("x0.x20'.x3"))
	}
	if w := rulesOfWord(word("x1.x0")).normal(); textOfWord(w) != "x0.x2" {
		t.Error("the normal word for x1.x0", w)
	}
	if p := rulesOfWord(word("x3'.x5.x3")).pair(); p != generator(6).pair() {
		t.Error("the next generator", p)
	}
	for _, w := range manyWords() {
		if !slices.Equal(word(textOfWord(w)), w) || len(w) > impl.MaxLetters || !areLetters(w) {
			t.Error("word", w)
		}
	}
	for text, want := range map[string]bool{"1": true, "x0.x0.x2.x2'": true, "x1'.x1'.x0'": true, "x0.x1'.x1": false, "x1.x0": false, "x0'.x1'": false} {
		if isInOrder(word(text)) != want {
			t.Error("order of", text)
		}
	}
	if impl.MaxLetters != 20 || impl.MaxGenerator != 20 || impl.MaxTwo != 300 {
		t.Error("limits", impl.MaxLetters, impl.MaxGenerator, impl.MaxTwo)
	}
}
