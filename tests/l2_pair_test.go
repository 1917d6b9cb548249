package tests

import (
	"fmt"
	"slices"
	"strings"
	"testing"

	"loop.example/g01161/impl"
)

// Promise 2: reduced pairs are unique, and products go with inverses, powers and mirrors.

// shrinking is a pair whose power 2 has more than MaxCarets carets, while its power 3 has no more.
const shrinking = "(((..)((.(..))(.(..)))).)>((.((.(..))(.(..))))(..))"

func TestIsPairOfAllSmallTrees(t *testing.T) {
	trees := append(treesUpTo(4), right(8), left(8), right(9), left(9))
	for _, a := range trees {
		for _, b := range trees {
			want := len(a) == len(b) && len(a) <= len(right(8))
			if impl.IsPair(impl.Pair{From: a, To: b}) != want {
				t.Errorf("IsPair %s>%s is not %v", a, b, want)
			}
		}
	}
}

func TestReducedPairs(t *testing.T) {
	gives(t, "two leaves reduced", impl.IdentityPair())(impl.ReducePair(impl.IdentityPair()))
	gives(t, "the pair that does nothing", pair(".>."))(impl.ReducePair(pair("((..).)>((..).)")))
	for _, p := range append(pairsUpTo(4), somePairs(8, 300)...) {
		r := rulesOf(p)
		want := r.reduced()
		gives(t, fmt.Sprint("ReducePair ", p), want.pair())(impl.ReducePair(p))
		gives(t, fmt.Sprint("IsReduced ", p), len(want) == len(r))(impl.IsReduced(p))
	}
	for _, tree := range []string{right(8), left(8)} {
		same := impl.Pair{From: tree, To: tree}
		gives(t, "8 carets that do nothing", pair(".>."))(impl.ReducePair(same))
		gives(t, "8 carets that do nothing", false)(impl.IsReduced(same))
	}
}

// TestReduceByAllChoices expands reduced pairs, and takes the carets away in other orders.
func TestReduceByAllChoices(t *testing.T) {
	choices := [][]int{nil, {}, {0}, {1}, {2, 1}, {1, 1, 1, 1}, {1<<63 - 1}, {0, 1<<63 - 1, 5}}
	for a := range 3 {
		for b := range 3 {
			choices = append(choices, []int{a, b, 2}, []int{2, a, b, 1, 0, 1, 2, 3})
		}
	}
	choices = append(choices, slices.Repeat([]int{1}, 20), slices.Repeat([]int{7}, 19), slices.Repeat([]int{1<<63 - 1}, 20))
	pairs := append(pairsUpTo(3), somePairs(8, 40)...)
	for _, tree := range treesWith(8)[:40] {
		pairs = append(pairs, impl.Pair{From: tree, To: tree})
	}
	for _, p := range pairs {
		want := rulesOf(p).reduced().pair()
		for _, list := range choices {
			gives(t, fmt.Sprint("ReduceBy ", p, list), want)(impl.ReduceBy(p, list))
		}
	}
}

func TestReduceByOtherChoices(t *testing.T) {
	for _, list := range [][]int{
		{-1}, {0, -1}, {0, 0, 0, 0, 0, 0, 0, 0, 0, 0, -1}, {-1 << 63}, append(make([]int, 19), -1), make([]int, 21), make([]int, 1_000_000),
	} {
		for _, text := range []string{".>.", "((..).)>(.(..))", "((..).)>((..).)"} {
			fails[impl.Pair](t, short(fmt.Sprint("ReduceBy ", text, list)))(impl.ReduceBy(pair(text), list))
		}
	}
}

func TestExpandedPairs(t *testing.T) {
	gives(t, "two leaves expanded", pair("(..)>(..)"))(impl.ExpandPair(impl.IdentityPair(), 0))
	gives(t, "x(0) expanded", pair("((.(..)).)>(.((..).))"))(impl.ExpandPair(pair("((..).)>(.(..))"), 1))
	for _, p := range append(pairsUpTo(4), somePairs(7, 100)...) {
		from, to := modelOf(p.From).leaves(), modelOf(p.To).leaves()
		for k := range from {
			r := rulesOf(p)
			delete(r, from[k])
			r[from[k]+"0"], r[from[k]+"1"] = to[k]+"0", to[k]+"1"
			call := fmt.Sprint("ExpandPair ", p, k)
			greater, ok := impl.ExpandPair(p, k)
			gives(t, call, r.pair())(greater, ok)
			gives(t, call+" is the same", true)(impl.AreSamePairs(p, greater))
			gives(t, call+" reduced", false)(impl.IsReduced(greater))
		}
		for _, k := range []int{-1, len(from), len(from) + 1, -1 << 63, 1<<63 - 1} {
			fails[impl.Pair](t, fmt.Sprint("ExpandPair ", p, k))(impl.ExpandPair(p, k))
		}
	}
	for k := range 10 {
		fails[impl.Pair](t, "ExpandPair of 8 carets")(impl.ExpandPair(impl.Pair{From: right(8), To: left(8)}, k-1))
	}
}

func TestInverseAndMirror(t *testing.T) {
	for _, p := range append(pairsUpTo(4), somePairs(8, 100)...) {
		r := rulesOf(p)
		gives(t, fmt.Sprint("InversePair ", p), r.inverse().pair())(impl.InversePair(p))
		gives(t, fmt.Sprint("MirrorPair ", p), r.mirror().pair())(impl.MirrorPair(p))
		back, _ := impl.InversePair(p)
		gives(t, fmt.Sprint("the product of the inverse and ", p), pair(".>."))(impl.ProductPair(back, p))
		gives(t, fmt.Sprint("the product with the inverse of ", p), pair(".>."))(impl.ProductPair(p, back))
	}
	gives(t, "the mirror is not reduced", pair("(.(..))>(.(..))"))(impl.MirrorPair(pair("((..).)>((..).)")))
}

func TestProducts(t *testing.T) {
	gives(t, "the square of x(0)", pair("(((..).).)>(.(.(..)))"))(impl.ProductPair(pair("((..).)>(.(..))"), pair("((..).)>(.(..))")))
	pairs := append(pairsUpTo(3), reducedUpTo(4)[30:70]...)
	for _, p := range pairs {
		for _, q := range pairs {
			want := rulesOf(p).then(rulesOf(q))
			expects(t, fmt.Sprint("ProductPair ", p, q), want)(impl.ProductPair(p, q))
		}
	}
}

// TestProductsOfLargePairs has products that are within the limit and such that are beyond it.
func TestProductsOfLargePairs(t *testing.T) {
	within, beyond := 0, 0
	for n := 4; n <= 8; n++ {
		for _, p := range somePairs(n, 30) {
			for _, q := range append(somePairs(9-n, 10), somePairs(n, 10)...) {
				want := rulesOf(p).then(rulesOf(q))
				expects(t, fmt.Sprint("ProductPair ", p, q), want)(impl.ProductPair(p, q))
				if len(want) <= 9 {
					within++
				} else {
					beyond++
				}
			}
		}
	}
	if within < 100 || beyond < 100 {
		t.Error("products within and beyond the limit:", within, beyond)
	}
}

func TestProductsAtTheLimit(t *testing.T) {
	for _, c := range []struct {
		p, q   string
		carets int
	}{
		{left(6) + ">" + right(6), "((..).)>(.(..))", 7},
		{left(7) + ">" + right(7), "((..).)>(.(..))", 8},
		{left(8) + ">" + right(8), "((..).)>(.(..))", 9},
		{left(4) + ">" + right(4), left(4) + ">" + right(4), 7},
		{left(5) + ">" + right(5), left(4) + ">" + right(4), 8},
		{left(5) + ">" + right(5), left(5) + ">" + right(5), 9},
		// What is in the middle has 9 and 15 carets, the product less.
		{right(5) + ">" + right(5), left(5) + ">" + left(5), 0},
		{right(8) + ">" + right(8), left(8) + ">" + left(8), 0},
		{left(8) + ">" + right(8), left(8) + ">" + left(8), 8},
		{left(2) + ">" + right(2), left(8) + ">" + left(8), 2},
	} {
		p, q := pair(c.p), pair(c.q)
		want := rulesOf(p).then(rulesOf(q))
		if len(want) != c.carets+1 {
			t.Errorf("the product of %s and %s has %d carets", c.p, c.q, len(want)-1)
		}
		expects(t, "ProductPair "+c.p+" "+c.q, want)(impl.ProductPair(p, q))
	}
}

// TestProductsGoAlong checks how products go with inverses, mirrors and reduced pairs, without the model.
func TestProductsGoAlong(t *testing.T) {
	for _, p := range reducedUpTo(3) {
		for _, q := range pairsUpTo(3) {
			call := fmt.Sprint(" of ", p, q)
			both, ok := impl.ProductPair(p, q)
			if !ok {
				t.Error("product", call)
			}
			gives(t, "IsReduced"+call, true)(impl.IsReduced(both))
			undone, _ := impl.InversePair(both)
			first, _ := impl.InversePair(q)
			second, _ := impl.InversePair(p)
			gives(t, "the inverse"+call, undone)(impl.ProductPair(first, second))
			mirror, _ := impl.MirrorPair(both)
			first, _ = impl.MirrorPair(p)
			second, _ = impl.MirrorPair(q)
			gives(t, "the mirror"+call, mirror)(impl.ProductPair(first, second))
			same, _ := impl.ReducePair(q)
			gives(t, "the product with the reduced one"+call, both)(impl.ProductPair(p, same))
			alone, _ := impl.ProductPair(impl.IdentityPair(), q)
			gives(t, "the product with the identity"+call, alone)(impl.ProductPair(q, impl.IdentityPair()))
			gives(t, "the reduced one"+call, alone)(impl.ReducePair(q))
		}
	}
}

func TestPowers(t *testing.T) {
	for _, p := range append(pairsUpTo(3), somePairs(6, 60)...) {
		for _, back := range []bool{false, true} {
			factor, sign := rulesOf(p), 1
			if back {
				factor, sign = factor.inverse(), -1
			}
			power, within := identity(), true
			for k := range impl.MaxPower + 1 {
				call := fmt.Sprint("PowerPair ", p, sign*k)
				if within = within && len(power) <= impl.MaxCarets+1; within {
					gives(t, call, power.pair())(impl.PowerPair(p, sign*k))
				} else {
					fails[impl.Pair](t, call)(impl.PowerPair(p, sign*k))
				}
				power = power.then(factor)
			}
		}
		for _, k := range []int{-impl.MaxPower - 1, impl.MaxPower + 1, -1 << 63, 1<<63 - 1} {
			fails[impl.Pair](t, fmt.Sprint("PowerPair ", p, k))(impl.PowerPair(p, k))
		}
	}
	if impl.MaxPower != 10 {
		t.Error("MaxPower", impl.MaxPower)
	}
}

// TestPowersAtTheLimit has powers of the first generator, which add a caret each, and one that does nothing.
func TestPowersAtTheLimit(t *testing.T) {
	x := pair("((..).)>(.(..))")
	for k := range 8 {
		gives(t, fmt.Sprint("the power ", k), rulesOf(impl.Pair{From: left(k + 1), To: right(k + 1)}).reduced().pair())(impl.PowerPair(x, k))
	}
	for k := 8; k <= 10; k++ {
		fails[impl.Pair](t, fmt.Sprint("the power ", k))(impl.PowerPair(x, k))
		fails[impl.Pair](t, fmt.Sprint("the power ", -k))(impl.PowerPair(x, -k))
	}
	for _, k := range []int{-10, -9, -1, 0, 1, 9, 10} {
		gives(t, fmt.Sprint("the power of nothing ", k), pair(".>."))(impl.PowerPair(pair("((..).)>((..).)"), k))
	}
	gives(t, "the power 0 of 8 carets", pair(".>."))(impl.PowerPair(impl.Pair{From: left(8), To: right(8)}, 0))
	gives(t, "the power 1 of 8 carets", impl.Pair{From: left(8), To: right(8)})(impl.PowerPair(impl.Pair{From: left(8), To: right(8)}, 1))
	gives(t, "the power -1 of 8 carets", impl.Pair{From: right(8), To: left(8)})(impl.PowerPair(impl.Pair{From: left(8), To: right(8)}, -1))
}

// TestPowersBehindTooManyCarets has a power within the limit that is behind one beyond it.
func TestPowersBehindTooManyCarets(t *testing.T) {
	p := pair(shrinking)
	r := rulesOf(p)
	if square := r.then(r); len(square) <= 9 || len(square.then(r)) > 9 {
		t.Fatal("powers 2 and 3", square, square.then(r))
	}
	for _, k := range []int{2, 3, -2, -3} {
		fails[impl.Pair](t, fmt.Sprint("PowerPair ", shrinking, k))(impl.PowerPair(p, k))
	}
	gives(t, "the power 1", p)(impl.PowerPair(p, 1))
}

func TestSamePairs(t *testing.T) {
	pairs := append(pairsUpTo(3), somePairs(8, 20)...)
	for _, p := range pairs {
		for _, q := range pairs {
			want := rulesOf(p).reduced().pair() == rulesOf(q).reduced().pair()
			gives(t, fmt.Sprint("AreSamePairs ", p, q), want)(impl.AreSamePairs(p, q))
		}
	}
}

func TestGenerators(t *testing.T) {
	if p := impl.IdentityPair(); p != pair(".>.") {
		t.Error("IdentityPair", p)
	}
	for i := range 7 {
		gives(t, fmt.Sprint("GeneratorPair ", i), generator(i).pair())(impl.GeneratorPair(i))
	}
	for _, i := range []int{-1, 7, 8, -1 << 63, 1<<63 - 1} {
		fails[impl.Pair](t, fmt.Sprint("GeneratorPair ", i))(impl.GeneratorPair(i))
	}
	for n := 1; n < 6; n++ {
		for k := range n {
			p, _ := impl.GeneratorPair(n)
			q, _ := impl.GeneratorPair(k)
			back, _ := impl.InversePair(q)
			first, _ := impl.ProductPair(back, p)
			gives(t, fmt.Sprint("the next generator ", n, k), generator(n+1).pair())(impl.ProductPair(first, q))
		}
	}
}

func TestCommutators(t *testing.T) {
	pairs := append(pairsUpTo(2), reducedUpTo(3)[3:]...)
	pairs = append(append(pairs, somePairs(8, 12)...), impl.Pair{From: left(8), To: right(8)}, pair(shrinking))
	for _, p := range pairs {
		for _, q := range pairs {
			r, s := rulesOf(p), rulesOf(q)
			want := r.inverse().then(s.inverse()).then(r).then(s)
			expects(t, fmt.Sprint("CommutatorPair ", p, q), want)(impl.CommutatorPair(p, q))
		}
	}
	// The products of the first factors are beyond the limit here.
	p := pair(shrinking)
	gives(t, "the commutator of a pair with itself", pair(".>."))(impl.CommutatorPair(p, p))
}

func TestCountOfReducedPairs(t *testing.T) {
	for n := range 5 {
		count := 0
		for _, p := range pairsWith(n) {
			if r := rulesOf(p); len(r.reduced()) == len(r) {
				count++
			}
		}
		gives(t, fmt.Sprint("CountReduced ", n), count)(impl.CountReduced(n))
	}
	for _, n := range []int{-1, 5, 8, -1 << 63, 1<<63 - 1} {
		fails[int](t, fmt.Sprint("CountReduced ", n))(impl.CountReduced(n))
	}
}

func TestCountOfForests(t *testing.T) {
	gives(t, "lists of 3 trees with 2 carets", 9)(impl.CountForests(3, 2))
	// counts has the number of lists of so many trees for each number of carets.
	counts := []int{1, 0, 0, 0, 0, 0, 0, 0, 0}
	for roots := 1; roots <= 9; roots++ {
		next := make([]int, 9)
		for carets := range next {
			for last := range carets + 1 {
				next[carets] += counts[carets-last] * len(treesWith(last))
			}
		}
		counts = next
		for carets, count := range counts {
			gives(t, fmt.Sprint("CountForests ", roots, carets), count)(impl.CountForests(roots, carets))
		}
	}
	for _, n := range []int{-1, 10, -1 << 63, 1<<63 - 1} {
		fails[int](t, fmt.Sprint("CountForests of roots ", n))(impl.CountForests(n, 3))
		fails[int](t, fmt.Sprint("CountForests of carets ", n))(impl.CountForests(3, n))
	}
	fails[int](t, "CountForests of 0 roots")(impl.CountForests(0, 0))
	fails[int](t, "CountForests of 9 carets")(impl.CountForests(1, 9))
}

// TestCountsAgree checks that all pairs are those that reduced ones make.
func TestCountsAgree(t *testing.T) {
	for n := range 5 {
		sum := 0
		for k := range n + 1 {
			reduced, _ := impl.CountReduced(k)
			lists, _ := impl.CountForests(k+1, n-k)
			sum += reduced * lists
		}
		trees, _ := impl.CountTrees(n)
		if sum != trees*trees {
			t.Error("pairs with", n, "carets:", sum)
		}
	}
}

func TestTextsOfPairs(t *testing.T) {
	for _, p := range append(pairsUpTo(4), somePairs(8, 100)...) {
		text := p.From + ">" + p.To
		gives(t, "PairText "+text, text)(impl.PairText(p))
		gives(t, "ParsePair "+text, p)(impl.ParsePair(text))
	}
	for _, text := range []string{
		"", ">", ".", "..", ".>", ">.", "(..)", ".>(..)", "(..)>.", "((..).)>(..)", ".>.>.", ".>>.", ">.>.", ".>.>", ".>..", ".>. ", " .>.",
		". > .", ".<.", ".>.\n", "(..)(..)", "((..).)>(.(..))>", "((..).)>(.(..)).", ".>.,.>.", "(..>..)", "(.>.)", ".\x00>.", ".>.\xff", ".=.", "1",
		right(9) + ">" + right(9), right(8) + ">" + right(7), strings.Repeat(".>", 1_000_000), right(1_000_000) + ">" + right(1_000_000),
		strings.Repeat(">", 1_000_000), strings.Repeat("(", 10_000_000) + ">.", ".>" + strings.Repeat("(", 10_000_000),
	} {
		fails[impl.Pair](t, "ParsePair "+short(text))(impl.ParsePair(text))
	}
}

// TestParsePairOfAllShortTexts tries all texts of at most seven letters: those with trees of as many leaves alone succeed.
func TestParsePairOfAllShortTexts(t *testing.T) {
	for _, text := range textsOf("(.)>", 7) {
		want, ok := impl.Pair{}, false
		if text == ".>." {
			want, ok = pair(text), true
		}
		if got, fine := impl.ParsePair(text); got != want || fine != ok {
			t.Fatal("ParsePair", text, got, fine)
		}
	}
}
