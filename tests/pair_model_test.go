package tests

import (
	"fmt"
	"maps"
	"slices"
	"strings"
	"testing"

	"loop.example/g01161/impl"
)

// rules are a pair as what it does to addresses: each key, where an address begins with it, is exchanged for its value.
// It is a second way to tell pairs, of any size, against which the program is held.
type rules map[string]string

func rulesOf(p impl.Pair) rules {
	r := rules{}
	to := modelOf(p.To).leaves()
	for k, a := range modelOf(p.From).leaves() {
		r[a] = to[k]
	}
	return r
}

// textOfLeaves returns the tree whose carets are at all beginnings of some addresses.
func textOfLeaves(addresses []string) string {
	set := carets{}
	for _, a := range addresses {
		for n := range len(a) {
			set[a[:n]] = true
		}
	}
	return set.text()
}

func (r rules) pair() impl.Pair {
	return impl.Pair{
		From: textOfLeaves(slices.Collect(maps.Keys(r))),
		To:   textOfLeaves(slices.Collect(maps.Values(r))),
	}
}

// fitting returns the pair if it is within the limit.
func (r rules) fitting() (impl.Pair, bool) {
	if len(r) > impl.MaxCarets+1 {
		return impl.Pair{}, false
	}
	return r.pair(), true
}

// reduced merges the rules of two sides into one for both as long as there are such rules.
func (r rules) reduced() rules {
	r = maps.Clone(r)
	for {
		found := ""
		for a, b := range r {
			above, left := strings.CutSuffix(a, "0")
			target, ok := strings.CutSuffix(b, "0")
			if other, has := r[above+"1"]; left && ok && has && other == target+"1" {
				found = a
				break
			}
		}
		if found == "" {
			return r
		}
		above := found[:len(found)-1]
		r[above] = r[found][:len(r[found])-1]
		delete(r, found)
		delete(r, above+"1")
	}
}

func (r rules) inverse() rules {
	other := rules{}
	for a, b := range r {
		other[b] = a
	}
	return other
}

// then returns the rules, reduced, for doing these and then others.
func (r rules) then(others rules) rules {
	both := rules{}
	for a, b := range r {
		for c, d := range others {
			if rest, ok := strings.CutPrefix(c, b); ok {
				both[a+rest] = d
			} else if rest, ok := strings.CutPrefix(b, c); ok {
				both[a] = d + rest
			}
		}
	}
	return both.reduced()
}

func (r rules) mirror() rules {
	exchange := strings.NewReplacer("0", "1", "1", "0")
	other := rules{}
	for a, b := range r {
		other[exchange.Replace(a)] = exchange.Replace(b)
	}
	return other
}

// identity is the one rule that exchanges nothing.
func identity() rules { return rules{"": ""} }

// generator returns the rules of x(i).
func generator(i int) rules {
	last := strings.Repeat("1", i)
	r := rules{last + "00": last + "0", last + "01": last + "10", last + "1": last + "11"}
	for k := range i {
		r[last[:k]+"0"] = last[:k] + "0"
	}
	return r
}

// pairsWith returns all pairs with n carets in each tree.
func pairsWith(n int) []impl.Pair {
	var list []impl.Pair
	trees := treesWith(n)
	for _, a := range trees {
		for _, b := range trees {
			list = append(list, impl.Pair{From: a, To: b})
		}
	}
	return list
}

// pairsUpTo returns all pairs with at most n carets in each tree.
func pairsUpTo(n int) []impl.Pair {
	var list []impl.Pair
	for k := range n + 1 {
		list = append(list, pairsWith(k)...)
	}
	return list
}

// reducedUpTo returns all reduced pairs with at most n carets in each tree.
func reducedUpTo(n int) []impl.Pair {
	var list []impl.Pair
	for _, p := range pairsUpTo(n) {
		if r := rulesOf(p); len(r.reduced()) == len(r) {
			list = append(list, p)
		}
	}
	return list
}

// somePairs returns pairs with n carets, of which the trees are far from each other in the list of trees.
func somePairs(n int, count int) []impl.Pair {
	trees := treesWith(n)
	var list []impl.Pair
	for k := range count {
		list = append(list, impl.Pair{From: trees[k*613%len(trees)], To: trees[(k*k*37+k*101+5)%len(trees)]})
	}
	return list
}

// expects checks a call that gives a pair against rules: it has to fail just if they are beyond the limit.
func expects(t *testing.T, call string, want rules) func(got impl.Pair, ok bool) {
	return func(got impl.Pair, ok bool) {
		t.Helper()
		if pair, fine := want.fitting(); ok != fine || got != pair {
			t.Errorf("%s is %v, %v, not %v, %v", call, got, ok, pair, fine)
		}
	}
}

// pair reads a text of a pair that a test has written.
func pair(s string) impl.Pair {
	from, to, _ := strings.Cut(s, ">")
	return impl.Pair{From: from, To: to}
}

// TestPairModel checks the model itself.
func TestPairModel(t *testing.T) {
	for _, p := range pairsUpTo(4) {
		r := rulesOf(p)
		if r.pair() != p || r.inverse().pair() != (impl.Pair{From: p.To, To: p.From}) {
			t.Error("model of", p)
		}
		if r.then(r.inverse()).pair() != identity().pair() {
			t.Error("inverse of", p)
		}
	}
	if p := generator(0).pair(); p != pair("((..).)>(.(..))") {
		t.Error("x(0)", p)
	}
	if text := fmt.Sprint(len(reducedUpTo(0)), len(reducedUpTo(2)), len(reducedUpTo(3))); text != "1 3 17" {
		t.Error("reduced pairs", text)
	}
}
