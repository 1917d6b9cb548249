package tests

import (
	"fmt"
	"slices"
	"strings"
	"testing"

	"loop.example/g01161/impl"
)

// Promise 6: ends add up, carriers carry, and pieces between fixed fractions make the pair.

func TestMaxOrbit(t *testing.T) {
	if impl.MaxOrbit != 20 {
		t.Error("MaxOrbit", impl.MaxOrbit)
	}
}

func TestEndSlopes(t *testing.T) {
	for _, p := range orbitPairs() {
		from, to := modelOf(p.From).leaves(), modelOf(p.To).leaves()
		last := len(from) - 1
		want := [2]int{len(from[0]) - len(to[0]), len(from[last]) - len(to[last])}
		gives(t, fmt.Sprint("EndSlopes ", p), want)(both(impl.EndSlopes(p)))
		gives(t, fmt.Sprint("IsInner ", p), want == [2]int{})(impl.IsInner(p))
		undone := impl.Pair{From: p.To, To: p.From}
		gives(t, fmt.Sprint("EndSlopes ", undone), [2]int{-want[0], -want[1]})(both(impl.EndSlopes(undone)))
		mirrored, _ := impl.MirrorPair(p)
		gives(t, fmt.Sprint("EndSlopes ", mirrored), [2]int{want[1], want[0]})(both(impl.EndSlopes(mirrored)))
	}
	gives(t, "EndSlopes of the steepest", [2]int{7, -7})(both(impl.EndSlopes(impl.Pair{From: left(8), To: right(8)})))
	gives(t, "EndSlopes of the flattest", [2]int{-7, 7})(both(impl.EndSlopes(impl.Pair{From: right(8), To: left(8)})))
}

// TestEndSlopesAddUp checks the ends of products against those of both pairs.
func TestEndSlopesAddUp(t *testing.T) {
	list := append(reducedUpTo(3), somePairs(8, 20)...)
	added := 0
	for _, p := range list {
		a, _ := both(impl.EndSlopes(p))
		for _, q := range list {
			b, _ := both(impl.EndSlopes(q))
			if product, ok := impl.ProductPair(p, q); ok {
				gives(t, fmt.Sprint("EndSlopes of the product of ", p, q), [2]int{a[0] + b[0], a[1] + b[1]})(both(impl.EndSlopes(product)))
				added++
			}
		}
	}
	if added < 300 {
		t.Error("products", added)
	}
}

func TestInnerPairs(t *testing.T) {
	for text, want := range map[string]bool{
		".>.":                         true,
		"((..).)>((..).)":             true,
		"((..).)>(.(..))":             false,
		"(.((..).))>(.(.(..)))":       false,
		"(((..).).)>((.(..)).)":       false,
		"(.(((..).).))>(.((.(..)).))": true,
		oneThird:                      false,
		fixedMiddle:                   false,
		fixedEnds:                     true,
		threePieces:                   false,
	} {
		gives(t, "IsInner "+text, want)(impl.IsInner(pair(text)))
	}
	for _, p := range reducedUpTo(3) {
		for _, q := range reducedUpTo(3) {
			if c, ok := impl.CommutatorPair(p, q); ok {
				gives(t, fmt.Sprint("IsInner of the commutator of ", p, q), true)(impl.IsInner(c))
			}
		}
	}
}

// TestIntervals has intervals as a hand tells them, with the directions of those that are moved.
func TestIntervals(t *testing.T) {
	for _, c := range []struct {
		pair       string
		fixed      string
		moved      string
		directions []int
	}{
		{".>.", "0-1", "", nil},
		{"((..)(..))>((..)(..))", "0-1", "", nil},
		{"((..).)>(.(..))", "0 1", "0-1", []int{1}},
		{"(.(..))>((..).)", "0 1", "0-1", []int{-1}},
		{"(.((..).))>(.(.(..)))", "0-1/2 1", "1/2-1", []int{1}},
		{"(((..).).)>((.(..)).)", "0 1/2-1", "0-1/2", []int{1}},
		{"((..)((..).))>((..)(.(..)))", "0-1/2 1", "1/2-1", []int{1}},
		{twoPieces, "0 1/2 1", "0-1/2 1/2-1", []int{1, 1}},
		{"(((..).)(.(..)))>((.(..))((..).))", "0 1/2 1", "0-1/2 1/2-1", []int{1, -1}},
		{"((.(..))((..).))>(((..).)(.(..)))", "0 1/2 1", "0-1/2 1/2-1", []int{-1, 1}},
		{threePieces, "0 1/2 3/4 1", "0-1/2 1/2-3/4 3/4-1", []int{1, 1, 1}},
		{fixedMiddle, "0 1/4-1/2 1", "0-1/4 1/2-1", []int{1, 1}},
		{fixedEnds, "0-1/4 1/2-1", "1/4-1/2", []int{1}},
		{oneThird, "0 1/3 1", "0-1/3 1/3-1", []int{1, -1}},
		{"((.((..).)).)>(((..).)(..))", "0 1/3 1", "0-1/3 1/3-1", []int{-1, 1}},
		{threeRatios, "0 7/24 11/24 2/3 1", "0-7/24 7/24-11/24 11/24-2/3 2/3-1", []int{1, -1, 1, -1}},
		{deepRatio, "0 145/252 1", "0-145/252 145/252-1", []int{1, -1}},
		{"(((.(..))(((..).)(..))).)>((.(((..)((..)(..))).)).)", "0 17/48 1/2-1", "0-17/48 17/48-1/2", []int{1, -1}},
	} {
		p := pair(c.pair)
		gives(t, "FixedIntervals "+c.pair, ratiosIn(c.fixed))(impl.FixedIntervals(p))
		gives(t, "MovedIntervals "+c.pair, ratiosIn(c.moved))(impl.MovedIntervals(p))
		gives(t, "DirectionsOf "+c.pair, c.directions)(impl.DirectionsOf(p))
	}
}

func TestIntervalsOfAllPairs(t *testing.T) {
	for _, p := range append(orbitPairs(), somePairs(7, 300)...) {
		r := rulesOf(p)
		gives(t, fmt.Sprint("FixedIntervals ", p), ratios(r.fixed()))(impl.FixedIntervals(p))
		gives(t, fmt.Sprint("MovedIntervals ", p), ratios(r.moved()))(impl.MovedIntervals(p))
		gives(t, fmt.Sprint("DirectionsOf ", p), r.directions())(impl.DirectionsOf(p))
	}
}

// isBetween reports whether a fraction is between both ends of an interval, the ends not counted.
func isBetween(x impl.Fraction, ends []impl.Ratio) bool {
	return ends[0].Num*x.Den < x.Num*ends[0].Den && x.Num*ends[1].Den < ends[1].Num*x.Den
}

// TestFractionsInIntervals checks by their values that all fractions in moved intervals go in one direction, and others nowhere.
func TestFractionsInIntervals(t *testing.T) {
	for _, p := range orbitPairs() {
		moved, _ := impl.MovedIntervals(p)
		directions, _ := impl.DirectionsOf(p)
		r := rulesOf(p)
		for _, x := range fractionsUpTo(1024) {
			want := 0
			for k, ends := range moved {
				if isBetween(x, ends) {
					want = directions[k]
				}
			}
			if r.value(decimal(x)) > decimal(x) != (want > 0) || r.value(decimal(x)) < decimal(x) != (want < 0) {
				t.Fatal("DirectionsOf", p, x, moved, directions)
			}
		}
	}
}

// TestIntervalsOfInverses checks that an inverse fixes the same and moves it the other way.
func TestIntervalsOfInverses(t *testing.T) {
	for _, p := range orbitPairs() {
		undone := impl.Pair{From: p.To, To: p.From}
		fixed, _ := impl.FixedIntervals(p)
		gives(t, fmt.Sprint("FixedIntervals ", undone), fixed)(impl.FixedIntervals(undone))
		directions, _ := impl.DirectionsOf(p)
		for k := range directions {
			directions[k] = -directions[k]
		}
		gives(t, fmt.Sprint("DirectionsOf ", undone), directions)(impl.DirectionsOf(undone))
	}
}

func TestSlopesBeside(t *testing.T) {
	for _, p := range orbitPairs() {
		r := rulesOf(p)
		for _, x := range between(fractionsUpTo(1024)) {
			left, right := r.slopesBeside(decimal(x))
			if got, ok := both(impl.SlopesBeside(p, x)); got != [2]int{int(left), int(right)} || !ok {
				t.Fatal("SlopesBeside", p, x, got, ok, left, right)
			}
		}
		fails[[2]int](t, fmt.Sprint("SlopesBeside 0 ", p))(both(impl.SlopesBeside(p, fraction(0, 1))))
		fails[[2]int](t, fmt.Sprint("SlopesBeside 1 ", p))(both(impl.SlopesBeside(p, fraction(1, 1))))
	}
	x := pair("((..).)>(.(..))")
	gives(t, "SlopesBeside a break", [2]int{1, 0})(both(impl.SlopesBeside(x, fraction(1, 4))))
	gives(t, "SlopesBeside a break", [2]int{0, -1})(both(impl.SlopesBeside(x, fraction(1, 2))))
	gives(t, "SlopesBeside no break", [2]int{1, 1})(both(impl.SlopesBeside(x, fraction(1, 8))))
	gives(t, "SlopesBeside no break", [2]int{0, 0})(both(impl.SlopesBeside(x, fraction(3, 8))))
	gives(t, "SlopesBeside 1/1024", [2]int{1, 1})(both(impl.SlopesBeside(x, fraction(1, 1024))))
	gives(t, "SlopesBeside 1023/1024", [2]int{-1, -1})(both(impl.SlopesBeside(x, fraction(1023, 1024))))
	gives(t, "SlopesBeside a fixed break", [2]int{-1, 1})(both(impl.SlopesBeside(pair(twoPieces), fraction(1, 2))))
	gives(t, "SlopesBeside an end that is no break", [2]int{0, 0})(both(impl.SlopesBeside(pair("((..).)>((..).)"), fraction(1, 4))))
}

func TestOrbits(t *testing.T) {
	for _, p := range orbitPairs() {
		r := rulesOf(p)
		for _, x := range fractionsUpTo(16) {
			for _, steps := range []int{0, 1, 2, 3, 7, 20} {
				want, fine := r.orbit(decimal(x), steps)
				got, ok := impl.OrbitOf(p, x, steps)
				if ok != fine || !same(got, want) {
					t.Fatal("OrbitOf", p, x, steps, got, ok, want, fine)
				}
			}
		}
		fails[[]impl.Fraction](t, fmt.Sprint("OrbitOf 21 steps ", p))(impl.OrbitOf(p, fraction(0, 1), 21))
		fails[[]impl.Fraction](t, fmt.Sprint("OrbitOf less than 0 steps ", p))(impl.OrbitOf(p, fraction(0, 1), -1))
	}
}

func TestOrbitsAtTheLimits(t *testing.T) {
	x, undone := pair("((..).)>(.(..))"), pair("(.(..))>((..).)")
	gives(t, "OrbitOf 0 steps", fractions("3/1024"))(impl.OrbitOf(x, fraction(3, 1024), 0))
	gives(t, "OrbitOf 1/1024", fractions("1/1024 1/512 1/256 1/128 1/64 1/32 1/16 1/8 1/4 1/2 3/4 7/8 15/16 31/32 63/64 127/128 255/256 511/512 1023/1024"))(impl.OrbitOf(x, fraction(1, 1024), 18))
	fails[[]impl.Fraction](t, "OrbitOf 1/1024 one step more")(impl.OrbitOf(x, fraction(1, 1024), 19))
	gives(t, "OrbitOf 1/2", fractions("1/2 1/4 1/8 1/16 1/32 1/64 1/128 1/256 1/512 1/1024"))(impl.OrbitOf(undone, fraction(1, 2), 9))
	fails[[]impl.Fraction](t, "OrbitOf 1/2 one step more")(impl.OrbitOf(undone, fraction(1, 2), 10))
	fails[[]impl.Fraction](t, "OrbitOf 1/2 all steps")(impl.OrbitOf(undone, fraction(1, 2), 20))
	for _, end := range fractions("0/1 1/1") {
		gives(t, "OrbitOf an end", slices.Repeat([]impl.Fraction{end}, 21))(impl.OrbitOf(x, end, 20))
		fails[[]impl.Fraction](t, "OrbitOf an end, 21 steps")(impl.OrbitOf(x, end, 21))
	}
	gives(t, "OrbitOf a fixed fraction", slices.Repeat(fractions("1/2"), 21))(impl.OrbitOf(pair(twoPieces), fraction(1, 2), 20))
	gives(t, "OrbitOf a fixed fraction", slices.Repeat(fractions("5/1024"), 21))(impl.OrbitOf(pair("(.((..).))>(.(.(..)))"), fraction(5, 1024), 20))
	gives(t, "OrbitOf two leaves", slices.Repeat(fractions("1023/1024"), 6))(impl.OrbitOf(impl.IdentityPair(), fraction(1023, 1024), 5))
}

// carried is what a carrier's trees have to be made of: which of them gets combs, and whether the reduced pair has fewer carets.
type carried struct {
	front  int
	behind int
	large  bool
	fits   bool
}

// checkCarrier holds CarrierOf against trees that are made as the document tells, and returns how they were made.
func checkCarrier(t *testing.T, x impl.Fraction, y impl.Fraction) carried {
	t.Helper()
	r := carrier(x, y)
	want, fine := r.reduced().fitting()
	got, ok := impl.CarrierOf(x, y)
	if got != want || ok != fine {
		t.Errorf("CarrierOf %v, %v is %v, %v, not %v, %v", x, y, got, ok, want, fine)
	}
	if ok {
		gives(t, fmt.Sprint("ValueOf the carrier of ", x, y), y)(impl.ValueOf(got, x))
		gives(t, fmt.Sprint("IsReduced the carrier of ", x, y), true)(impl.IsReduced(got))
	}
	from, to := places(decimal(x), 10), places(decimal(y), 10)
	front := strings.Count(to, "1") - strings.Count(from, "1")
	behind := strings.Count(strings.TrimRight(to, "0"), "0") - strings.Count(strings.TrimRight(from, "0"), "0")
	return carried{front: max(min(front, 1), -1), behind: max(min(behind, 1), -1), large: len(r) > 9, fits: fine}
}

func TestCarriers(t *testing.T) {
	seen := map[carried]int{}
	few, many := between(fractionsUpTo(32)), between(fractionsUpTo(1024))
	for _, x := range few {
		for _, y := range few {
			seen[checkCarrier(t, x, y)]++
		}
	}
	for k := range 4000 {
		seen[checkCarrier(t, many[k*617%len(many)], many[(k*k*29+k*211+7)%len(many)])]++
	}
	for front := -1; front <= 1; front++ {
		for behind := -1; behind <= 1; behind++ {
			for _, c := range []carried{{front, behind, false, true}, {front, behind, true, true}, {front, behind, true, false}} {
				if seen[c] == 0 {
					t.Errorf("no carrier has %+v", c)
				}
			}
		}
	}
}

func TestSomeCarriers(t *testing.T) {
	for _, c := range [][3]string{
		{"1/2", "3/4", "((..).)>(.(..))"},
		{"3/4", "1/2", "(.(..))>((..).)"},
		{"3/4", "1/4", "(.(.(..)))>(((..).).)"},
		{"1/4", "3/4", "(((..).).)>(.(.(..)))"},
		{"1/2", "1/4", "(.(..))>((..).)"},
		{"1/2", "7/8", "((.(..)).)>(.(.(..)))"},
		{"1/2", "1/8", "(.(.(..)))>(((..).).)"},
		{"81/512", "81/1024", "(.(..))>((..).)"},
		{"123/512", "123/1024", "(.(..))>((..).)"},
		{"263/1024", "519/1024", "((..).)>(.(..))"},
		{"1/2", "1/2", ".>."},
		{"1023/1024", "1023/1024", ".>."},
		{"5/16", "5/16", ".>."},
	} {
		x, y := fractions(c[0])[0], fractions(c[1])[0]
		gives(t, "CarrierOf "+c[0]+" "+c[1], pair(c[2]))(impl.CarrierOf(x, y))
	}
	for _, x := range between(fractionsUpTo(1024)) {
		gives(t, fmt.Sprint("CarrierOf to itself ", x), impl.IdentityPair())(impl.CarrierOf(x, x))
		for _, end := range fractions("0/1 1/1") {
			fails[impl.Pair](t, fmt.Sprint("CarrierOf from an end to ", x))(impl.CarrierOf(end, x))
			fails[impl.Pair](t, fmt.Sprint("CarrierOf to an end from ", x))(impl.CarrierOf(x, end))
			fails[impl.Pair](t, "CarrierOf both ends")(impl.CarrierOf(end, end))
		}
		fails[impl.Pair](t, "CarrierOf both ends")(impl.CarrierOf(fraction(0, 1), fraction(1, 1)))
		fails[impl.Pair](t, "CarrierOf both ends")(impl.CarrierOf(fraction(1, 1), fraction(0, 1)))
	}
	fails[impl.Pair](t, "CarrierOf with the longest comb in front")(impl.CarrierOf(fraction(1, 2), fraction(1023, 1024)))
	fails[impl.Pair](t, "CarrierOf with the longest combs")(impl.CarrierOf(fraction(1, 1024), fraction(1023, 1024)))
	fails[impl.Pair](t, "CarrierOf with the longest combs")(impl.CarrierOf(fraction(1023, 1024), fraction(1, 1024)))
	gives(t, "CarrierOf with 8 carets", impl.Pair{From: "(" + right(7) + ".)", To: right(8)})(impl.CarrierOf(fraction(1, 2), fraction(255, 256)))
	fails[impl.Pair](t, "CarrierOf with 9 carets")(impl.CarrierOf(fraction(1, 2), fraction(511, 512)))
}

// expectsCommuting holds DoCommute against both products by rules, and returns whether it succeeds, and whether they are the same.
func expectsCommuting(t *testing.T, p impl.Pair, q impl.Pair) (bool, bool) {
	t.Helper()
	one, oneFits := rulesOf(p).then(rulesOf(q)).fitting()
	other, otherFits := rulesOf(q).then(rulesOf(p)).fitting()
	call := fmt.Sprint("DoCommute ", p, q)
	if !oneFits || !otherFits {
		fails[bool](t, call)(impl.DoCommute(p, q))
		return false, oneFits != otherFits
	}
	gives(t, call, one == other)(impl.DoCommute(p, q))
	return true, one == other
}

func TestDoCommute(t *testing.T) {
	list := slices.Concat(pairsUpTo(2), reducedUpTo(3), somePairs(4, 10), somePairs(8, 30))
	seen := map[[2]bool]int{}
	for _, p := range list {
		for _, q := range list {
			fits, is := expectsCommuting(t, p, q)
			seen[[2]bool{fits, is}]++
		}
		gives(t, fmt.Sprint("DoCommute with two leaves ", p), true)(impl.DoCommute(p, impl.IdentityPair()))
	}
	// That one product alone has too many carets is among these, too.
	for _, key := range [][2]bool{{true, true}, {true, false}, {false, true}, {false, false}} {
		if seen[key] < 10 {
			t.Error("products", key, seen[key])
		}
	}
	gives(t, "DoCommute x(0) and x(1)", false)(impl.DoCommute(pair("((..).)>(.(..))"), pair("(.((..).))>(.(.(..)))")))
}

func TestPowersCommute(t *testing.T) {
	for _, p := range reducedUpTo(3) {
		for k := -3; k <= 3; k++ {
			power, ok := impl.PowerPair(p, k)
			if commute, fine := impl.DoCommute(p, power); ok && fine && !commute {
				t.Error("DoCommute", p, power)
			}
		}
		gives(t, fmt.Sprint("DoCommute with itself ", p), true)(impl.DoCommute(p, p))
		undone, _ := impl.InversePair(p)
		gives(t, fmt.Sprint("DoCommute with the inverse ", p), true)(impl.DoCommute(p, undone))
	}
}

func TestPieceBetween(t *testing.T) {
	some := append(fractionsUpTo(16), fractions("1/1024 257/1024 341/1024 511/1024 513/1024 1023/1024 1/512 255/512")...)
	made := 0
	for _, p := range orbitPairs() {
		r := rulesOf(p)
		for _, x := range some {
			for _, y := range some {
				call := fmt.Sprint("PieceBetween ", p, x, y)
				if r.value(decimal(x)) != decimal(x) || r.value(decimal(y)) != decimal(y) || decimal(x) >= decimal(y) {
					fails[impl.Pair](t, call)(impl.PieceBetween(p, x, y))
					continue
				}
				gives(t, call, r.pieceBetween(decimal(x), decimal(y)).pair())(impl.PieceBetween(p, x, y))
				made++
			}
		}
	}
	if made < 1000 {
		t.Error("pieces", made)
	}
}

// TestPiecesDoTheSame checks a piece by the values of all fractions.
func TestPiecesDoTheSame(t *testing.T) {
	for _, p := range orbitPairs() {
		r := rulesOf(p)
		ends := fractionsFor(r.fixedBreaks())
		for i := range ends {
			for j := i + 1; j < len(ends); j++ {
				piece, ok := impl.PieceBetween(p, ends[i], ends[j])
				if !ok || strings.Count(piece.From, "(") > strings.Count(p.From, "(") {
					t.Fatal("PieceBetween", p, ends[i], ends[j], piece, ok)
				}
				for _, x := range fractionsUpTo(256) {
					want := x
					if decimal(ends[i]) < decimal(x) && decimal(x) < decimal(ends[j]) {
						want, _ = impl.ValueOf(p, x)
					}
					if got, _ := impl.ValueOf(piece, x); got != want {
						t.Fatal("PieceBetween", p, ends[i], ends[j], x, got, want)
					}
				}
			}
		}
	}
}

func TestSomePieces(t *testing.T) {
	for _, c := range []struct {
		pair   string
		from   string
		to     string
		result string
	}{
		{twoPieces, "0/1", "1/2", "(((..).).)>((.(..)).)"},
		{twoPieces, "1/2", "1/1", "(.((..).))>(.(.(..)))"},
		{twoPieces, "0/1", "1/1", twoPieces},
		{threePieces, "1/2", "3/4", "(.(((..).).))>(.((.(..)).))"},
		{threePieces, "1/2", "1/1", "(.(((..).)((..).)))>(.((.(..))(.(..))))"},
		{fixedMiddle, "1/4", "1/2", ".>."},
		{fixedMiddle, "5/16", "3/8", ".>."},
		{fixedMiddle, "0/1", "3/8", "((((..).).).)>(((.(..)).).)"},
		{fixedMiddle, "513/1024", "1/1", ""},
		{fixedMiddle, "511/1024", "1/1", "(.((..).))>(.(.(..)))"},
		{fixedEnds, "1/1024", "1023/1024", fixedEnds},
		{"((..).)>((..).)", "0/1", "1/1", ".>."},
		{".>.", "1/1024", "3/1024", ".>."},
		{"((..).)>(.(..))", "0/1", "1/1", "((..).)>(.(..))"},
		{"((..).)>(.(..))", "0/1", "1/2", ""},
		{"((..).)>(.(..))", "1/4", "1/1", ""},
		{oneThird, "0/1", "1/4", ""},
		{twoPieces, "1/2", "1/2", ""},
		{twoPieces, "0/1", "0/1", ""},
		{twoPieces, "1/1", "1/1", ""},
		{twoPieces, "1/2", "0/1", ""},
		{twoPieces, "1/1", "0/1", ""},
		{twoPieces, "1/1", "1/2", ""},
		{twoPieces, "1/4", "1/4", ""},
	} {
		call := "PieceBetween " + c.pair + " " + c.from + " " + c.to
		x, y := fractions(c.from)[0], fractions(c.to)[0]
		if c.result == "" {
			fails[impl.Pair](t, call)(impl.PieceBetween(pair(c.pair), x, y))
			continue
		}
		gives(t, call, pair(c.result))(impl.PieceBetween(pair(c.pair), x, y))
	}
}

func TestPiecesOf(t *testing.T) {
	for _, p := range append(orbitPairs(), somePairs(7, 300)...) {
		r := rulesOf(p)
		pieces, ok := impl.PiecesOf(p)
		gives(t, fmt.Sprint("PiecesOf ", p), r.pieces())(pieces, ok)
		// In any order they make the pair, reduced.
		for _, order := range orders(pieces) {
			whole := identity()
			for _, piece := range order {
				whole = whole.then(rulesOf(piece))
			}
			if whole.pair() != r.reduced().pair() {
				t.Error("PiecesOf", p, order)
			}
		}
	}
	for text, want := range map[string]string{
		".>.":                   "",
		"((..).)>((..).)":       "",
		"((..).)>(.(..))":       "((..).)>(.(..))",
		"(.((..).))>(.(.(..)))": "(.((..).))>(.(.(..)))",
		twoPieces:               "(((..).).)>((.(..)).) (.((..).))>(.(.(..)))",
		threePieces:             "(((..).).)>((.(..)).) (.(((..).).))>(.((.(..)).)) (.(.((..).)))>(.(.(.(..))))",
		fixedMiddle:             "((((..).).).)>(((.(..)).).) (.((..).))>(.(.(..)))",
		fixedEnds:               fixedEnds,
		oneThird:                oneThird,
	} {
		var pieces []impl.Pair
		for _, word := range strings.Fields(want) {
			pieces = append(pieces, pair(word))
		}
		gives(t, "PiecesOf "+text, pieces)(impl.PiecesOf(pair(text)))
	}
}

func TestPiecesAreApart(t *testing.T) {
	several := 0
	for _, p := range orbitPairs() {
		pieces, _ := impl.PiecesOf(p)
		for i := range pieces {
			for j := range pieces {
				if i != j {
					gives(t, fmt.Sprint("AreApart ", pieces[i], pieces[j]), true)(impl.AreApart(pieces[i], pieces[j]))
					gives(t, fmt.Sprint("DoCommute ", pieces[i], pieces[j]), true)(impl.DoCommute(pieces[i], pieces[j]))
					several++
				}
			}
		}
	}
	if several < 20 {
		t.Error("pieces of one pair", several)
	}
}

func TestAreApart(t *testing.T) {
	list := slices.Concat(reducedUpTo(3), orbitPairs()[len(orbitPairs())-24:], pairsUpTo(2), somePairs(8, 10))
	for _, p := range list {
		for _, q := range list {
			want := rulesOf(p).isApart(rulesOf(q))
			gives(t, fmt.Sprint("AreApart ", p, q), want)(impl.AreApart(p, q))
			if commute, ok := impl.DoCommute(p, q); want && ok && !commute {
				t.Error("DoCommute", p, q)
			}
		}
		moved, _ := impl.MovedIntervals(p)
		gives(t, fmt.Sprint("AreApart twice ", p), len(moved) == 0)(impl.AreApart(p, p))
		gives(t, fmt.Sprint("AreApart with two leaves ", p), true)(impl.AreApart(p, impl.IdentityPair()))
		gives(t, fmt.Sprint("AreApart of two leaves ", p), true)(impl.AreApart(impl.IdentityPair(), p))
	}
	half, other := "(((..).).)>((.(..)).)", "(.((..).))>(.(.(..)))"
	for _, c := range []struct {
		p    string
		q    string
		want bool
	}{
		{half, other, true},
		{half, half, false},
		{half, "((..).)>(.(..))", false},
		{half, fixedEnds, false},
		{other, fixedEnds, true},
		{fixedMiddle, fixedEnds, true},
		{fixedMiddle, other, false},
		{oneThird, half, false},
		{"((..).)>((..).)", "(.(..))>(.(..))", true},
	} {
		gives(t, "AreApart "+c.p+" "+c.q, c.want)(impl.AreApart(pair(c.p), pair(c.q)))
		gives(t, "AreApart "+c.q+" "+c.p, c.want)(impl.AreApart(pair(c.q), pair(c.p)))
	}
}

// TestPairsWithTooManyCaretsTogether has pairs that are apart, while their product is beyond the limit.
func TestPairsWithTooManyCaretsTogether(t *testing.T) {
	p, q := impl.Pair{From: "(" + left(7) + ".)", To: "(" + right(7) + ".)"}, impl.Pair{From: "(." + left(7) + ")", To: "(." + right(7) + ")"}
	gives(t, "AreApart", true)(impl.AreApart(p, q))
	fails[bool](t, "DoCommute")(impl.DoCommute(p, q))
	fails[bool](t, "DoCommute")(impl.DoCommute(q, p))
}

// TestOrbitsOfReducedPairs checks that what a pair does is told the same whether it is reduced or not.
func TestOrbitsOfReducedPairs(t *testing.T) {
	for _, p := range reducedUpTo(3) {
		for leaf := range strings.Count(p.From, ".") {
			more, _ := impl.ExpandPair(p, leaf)
			ends, _ := both(impl.EndSlopes(p))
			gives(t, fmt.Sprint("EndSlopes ", more), ends)(both(impl.EndSlopes(more)))
			fixed, _ := impl.FixedIntervals(p)
			gives(t, fmt.Sprint("FixedIntervals ", more), fixed)(impl.FixedIntervals(more))
			moved, _ := impl.MovedIntervals(p)
			gives(t, fmt.Sprint("MovedIntervals ", more), moved)(impl.MovedIntervals(more))
			directions, _ := impl.DirectionsOf(p)
			gives(t, fmt.Sprint("DirectionsOf ", more), directions)(impl.DirectionsOf(more))
			pieces, _ := impl.PiecesOf(p)
			gives(t, fmt.Sprint("PiecesOf ", more), pieces)(impl.PiecesOf(more))
			piece, _ := impl.PieceBetween(p, fraction(0, 1), fraction(1, 1))
			gives(t, fmt.Sprint("PieceBetween ", more), piece)(impl.PieceBetween(more, fraction(0, 1), fraction(1, 1)))
			gives(t, fmt.Sprint("DoCommute ", more), true)(impl.DoCommute(p, more))
		}
	}
}

func TestExampleOfOrbits(t *testing.T) {
	x := pair("((..).)>(.(..))")
	gives(t, "EndSlopes", [2]int{1, -1})(both(impl.EndSlopes(x)))
	gives(t, "FixedIntervals", [][]impl.Ratio{{{Num: 0, Den: 1}, {Num: 0, Den: 1}}, {{Num: 1, Den: 1}, {Num: 1, Den: 1}}})(impl.FixedIntervals(x))
	gives(t, "DirectionsOf", []int{1})(impl.DirectionsOf(x))
	gives(t, "OrbitOf", fractions("1/8 1/4 1/2 3/4"))(impl.OrbitOf(x, fraction(1, 8), 3))
	gives(t, "CarrierOf", x)(impl.CarrierOf(fraction(1, 2), fraction(3, 4)))
}
