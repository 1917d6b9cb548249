package tests

import (
	"maps"
	"reflect"
	"slices"
	"strings"
	"testing"

	"loop.example/g01161/impl"
)

// carets is a tree as the set of the addresses of its carets: a second way to tell trees, against which the program is held.
type carets map[string]bool

// modelOf reads a text that is known to be a tree, by the address of each of its bytes.
func modelOf(t string) carets {
	set := carets{}
	var open []string
	here := ""
	for _, c := range t {
		switch c {
		case '(':
			set[here] = true
			open = append(open, here)
			here += "0"
		case '.':
			here = here[:max(len(here)-1, 0)] + "1"
		case ')':
			// Both sides are behind: the next place is the right side of the caret above.
			last := open[len(open)-1]
			open = open[:len(open)-1]
			here = last[:max(len(last)-1, 0)] + "1"
		}
	}
	return set
}

func (set carets) textAt(here string) string {
	if !set[here] {
		return "."
	}
	return "(" + set.textAt(here+"0") + set.textAt(here+"1") + ")"
}

func (set carets) text() string { return set.textAt("") }

func (set carets) leavesAt(here string) []string {
	if !set[here] {
		return []string{here}
	}
	return append(set.leavesAt(here+"0"), set.leavesAt(here+"1")...)
}

func (set carets) leaves() []string { return set.leavesAt("") }

func (set carets) union(other carets) carets {
	both := maps.Clone(set)
	maps.Copy(both, other)
	return both
}

func (set carets) meet(other carets) carets {
	both := carets{}
	for a := range set {
		if other[a] {
			both[a] = true
		}
	}
	return both
}

// graft returns the carets with those of another tree below an address.
func (set carets) graft(address string, other carets) carets {
	both := maps.Clone(set)
	for a := range other {
		both[address+a] = true
	}
	return both
}

func (set carets) mirror() carets {
	other := carets{}
	for a := range set {
		other[strings.NewReplacer("0", "1", "1", "0").Replace(a)] = true
	}
	return other
}

// treesWith returns all trees with n carets by their sides, in the order of texts.
func treesWith(n int) []string {
	if n == 0 {
		return []string{"."}
	}
	var list []string
	for left := range n {
		for _, a := range treesWith(left) {
			for _, b := range treesWith(n - 1 - left) {
				list = append(list, "("+a+b+")")
			}
		}
	}
	slices.Sort(list)
	return list
}

// treesUpTo returns all trees with at most n carets.
func treesUpTo(n int) []string {
	var list []string
	for k := range n + 1 {
		list = append(list, treesWith(k)...)
	}
	return list
}

// textsOf returns all texts of at most n of the letters.
func textsOf(letters string, n int) []string {
	list := []string{""}
	for first := 0; n > 0; n-- {
		last := len(list)
		for _, t := range list[first:last] {
			for i := range len(letters) {
				list = append(list, t+letters[i:i+1])
			}
		}
		first = last
	}
	return list
}

func right(n int) string { return strings.Repeat("(.", n) + "." + strings.Repeat(")", n) }

func left(n int) string { return strings.Repeat("(", n) + "." + strings.Repeat(".)", n) }

// same holds one result against what it has to be; a nil slice and an empty one are the same.
func same[T any](got T, want T) bool {
	a, b := reflect.ValueOf(got), reflect.ValueOf(want)
	if a.Kind() == reflect.Slice && a.Len() == 0 && b.Len() == 0 {
		return true
	}
	return reflect.DeepEqual(got, want)
}

// gives checks a call that has to succeed.
func gives[T any](t *testing.T, call string, want T) func(got T, ok bool) {
	return func(got T, ok bool) {
		t.Helper()
		if !ok || !same(got, want) {
			t.Errorf("%s is %v, %v, not %v", call, got, ok, want)
		}
	}
}

// fails checks a call that has to fail, with the zero value as its result.
func fails[T any](t *testing.T, call string) func(got T, ok bool) {
	return func(got T, ok bool) {
		t.Helper()
		var zero T
		if ok || !same(got, zero) {
			t.Errorf("%s is %v, %v, and has to fail", call, got, ok)
		}
	}
}

// TestModel checks the model itself, and that combs are as many carets as they tell.
func TestModel(t *testing.T) {
	for _, tree := range treesUpTo(5) {
		if modelOf(tree).text() != tree {
			t.Error("model of", tree)
		}
	}
	if right(2) != "(.(..))" || left(2) != "((..).)" || right(0) != "." || left(0) != "." {
		t.Error("combs", right(2), left(2))
	}
	if impl.MaxCarets != 8 {
		t.Error("MaxCarets", impl.MaxCarets)
	}
}
