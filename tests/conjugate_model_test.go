package tests

import (
	"slices"
	"strings"
	"sync"
	"testing"

	"loop.example/g01161/impl"
)

// Conjugates of rules, made by whole words and tried word by word, and rules of both halves by the first letters of addresses:
// a second way to tell them, of any size, against which the program is held.

// conjugate returns the rules for the conjugate by others.
func (r rules) conjugate(s rules) rules { return s.inverse().then(r).then(s) }

// power returns the rules, reduced, for doing these so many times.
func (r rules) power(k int) rules {
	all := identity()
	for range k {
		all = all.then(r)
	}
	return all
}

// wordRules are a word and its rules.
type wordRules struct {
	word  []int
	rules rules
}

// shortWords returns all words of at most 4 letters 1, -1, 2 and -2, shorter ones first, and of these in the order of letters.
var shortWords = sync.OnceValue(func() []wordRules {
	var list []wordRules
	for _, w := range wordsUpTo(4, letters(1)) {
		list = append(list, wordRules{word: w, rules: rulesOfWord(w)})
	}
	return list
})

// conjugators returns, for each conjugate by a short word, of any size, the first word that makes it.
func (r rules) conjugators() map[impl.Pair][]int {
	first := map[impl.Pair][]int{}
	for _, w := range shortWords() {
		p := r.conjugate(w.rules).pair()
		if _, has := first[p]; !has {
			first[p] = w.word
		}
	}
	return first
}

// isInFront orders pairs by the lengths of their trees, and then by texts.
func isInFront(p impl.Pair, q impl.Pair) bool {
	if len(p.From) != len(q.From) {
		return len(p.From) < len(q.From)
	}
	return p.From < q.From || p.From == q.From && p.To < q.To
}

// leastOf returns the first of all conjugates by words of at most most letters.
func leastOf(conjugators map[impl.Pair][]int, most int) impl.Pair {
	var first impl.Pair
	for p, w := range conjugators {
		if len(w) <= most && (first.From == "" || isInFront(p, first)) {
			first = p
		}
	}
	return first
}

// halvesOf returns the rules, reduced, that do on the left half what some do, and on the right half what others do.
func halvesOf(first rules, second rules) rules {
	whole := rules{}
	for a, b := range first {
		whole["0"+a] = "0" + b
	}
	for a, b := range second {
		whole["1"+a] = "1" + b
	}
	return whole.reduced()
}

// half returns what rules do on the half with a letter, if they carry nothing out of it or into it.
func (r rules) half(letter string) (rules, bool) {
	part := rules{}
	for a, b := range r.reduced().then(identity()) {
		if a == "" {
			return identity(), true
		}
		from, isInside := strings.CutPrefix(a, letter)
		to, stays := strings.CutPrefix(b, letter)
		if isInside != stays {
			return nil, false
		}
		if isInside {
			part[from] = to
		}
	}
	return part, true
}

// smallOnes returns all reduced pairs with at most n carets that some rules have to do with, in order.
func smallOnes(n int, isOne func(r rules) bool) []impl.Pair {
	var list []impl.Pair
	for _, p := range reducedUpTo(n) {
		if isOne(rulesOf(p)) {
			list = append(list, p)
		}
	}
	slices.SortFunc(list, func(p impl.Pair, q impl.Pair) int {
		if isInFront(p, q) {
			return -1
		}
		return 1
	})
	return list
}

// rootsOf returns the small pairs whose power k is that of some rules.
func (r rules) rootsOf(k int) []impl.Pair {
	p := r.reduced().pair()
	return smallOnes(3, func(s rules) bool { return s.power(k).pair() == p })
}

// commuting returns the small pairs that can be done in front of some rules or behind them.
func (r rules) commuting(n int) []impl.Pair {
	return smallOnes(n, func(s rules) bool { return s.then(r).pair() == r.then(s).pair() })
}

// TestConjugateModel checks the model itself.
func TestConjugateModel(t *testing.T) {
	if generator(2).conjugate(generator(0)).pair() != generator(3).pair() || generator(0).power(2).pair() != pair("(((..).).)>(.(.(..)))") {
		t.Error("conjugate", generator(2).conjugate(generator(0)))
	}
	if n := len(shortWords()); n != 1+4+16+64+256 {
		t.Error("words", n)
	}
	if p := halvesOf(identity(), generator(3)).pair(); p != generator(4).pair() {
		t.Error("halves", p)
	}
	if part, ok := generator(4).half("1"); !ok || part.pair() != generator(3).pair() {
		t.Error("half", part)
	}
	if _, ok := generator(0).half("0"); ok {
		t.Error("half of x(0)")
	}
}
