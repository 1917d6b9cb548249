package tests

import (
	"fmt"
	"slices"
	"strings"
	"testing"

	"loop.example/g01161/impl"
)

// Promise 11, for chapter 4: all arguments are accepted without panicking, none is modified.

const (
	least    = -1 << 63
	greatest = 1<<63 - 1
)

// noFractions returns structs that are no fractions.
func noFractions() []impl.Fraction {
	list := fractions("0/0 1/0 -1/0 0/2 2/2 2/4 4/4 0/1024 512/1024 1024/1024 1/2048 2047/2048 0/2048 2048/2048 2/1 3/2 5/4 1025/1024 2049/1024 " +
		"1/3 2/3 0/3 3/3 1/6 5/12 1/1023 1/1025 -1/1 -1/2 -1/1024 1/-1 0/-1 1/-2 -1/-2 -2/-2 1/-1024 1/-2048 1/1000")
	for _, end := range []int{least, least + 1, greatest, greatest - 1, 1 << 62, 1 << 32, 1<<32 + 1} {
		for _, x := range []int{least, greatest, -1, 0, 1, 2, 3, 1024} {
			list = append(list, fraction(end, x), fraction(x, end))
		}
	}
	return list
}

// noAddresses returns texts that are no addresses of at most MaxDepth letters.
func noAddresses() []string {
	return []string{
		"2", "/", "00 ", " 0", "0.1", "a", "-", "-1", "0x1", "0b1", "1_0", "01\n", "\x00", "0\x00", "\xff", "\xb0", "\u0660", "\uff10", "0\xff1", "()", "12", "21",
		"00000000002", "20000000000", strings.Repeat("0", 11), strings.Repeat("1", 11), strings.Repeat("01", 10), strings.Repeat("0", 64), strings.Repeat("1", 10_000_000),
	}
}

func TestFunctionsOfOtherFractionsFail(t *testing.T) {
	x := pair("((..).)>(.(..))")
	half := fraction(1, 2)
	for _, f := range noFractions() {
		call := fmt.Sprint(f)
		if impl.IsFraction(f) {
			t.Error("IsFraction", call)
		}
		for _, length := range []int{least, -1, 0, 1, 10, 11, greatest} {
			fails[string](t, "AddressOf "+call)(impl.AddressOf(f, length))
		}
		for _, tree := range []string{".", "(..)", right(8)} {
			fails[int](t, "LeafOf "+call)(impl.LeafOf(tree, f))
		}
		for _, p := range []impl.Pair{x, impl.IdentityPair(), {From: left(8), To: right(8)}} {
			fails[impl.Fraction](t, "ValueOf "+call)(impl.ValueOf(p, f))
			fails[int](t, "SlopeAt "+call)(impl.SlopeAt(p, f))
		}
		for _, list := range [][]impl.Fraction{{f}, {f, half}, {half, f}, slices.Repeat([]impl.Fraction{f}, 8)} {
			good := fractions("1/4 1/2 5/8 3/4 7/8 15/16 31/32 63/64")[:len(list)]
			fails[impl.Pair](t, "PairOfBreaks at "+call)(impl.PairOfBreaks(list, good))
			fails[impl.Pair](t, "PairOfBreaks to "+call)(impl.PairOfBreaks(good, list))
			fails[impl.Pair](t, "PairOfBreaks of "+call)(impl.PairOfBreaks(list, list))
		}
		for _, y := range append(fractions("0/1 1/2 1/1 1/1024"), f) {
			fails[impl.Fraction](t, "HalfOf "+call)(impl.HalfOf(f, y))
			fails[impl.Fraction](t, "HalfOf with "+call)(impl.HalfOf(y, f))
		}
	}
}

func TestFunctionsOfOtherAddressesFail(t *testing.T) {
	for _, a := range noAddresses() {
		fails[impl.Fraction](t, "FractionOf "+short(a))(impl.FractionOf(a))
		for _, tree := range []string{".", "(..)", left(8), right(8)} {
			fails[string](t, "ImageOfAddress "+short(a))(impl.ImageOfAddress(impl.Pair{From: tree, To: tree}, a))
		}
		fails[string](t, "ImageOfAddress "+short(a))(impl.ImageOfAddress(pair("((..).)>(.(..))"), a))
	}
}

func TestLengthsOfAddresses(t *testing.T) {
	for _, length := range []int{least, least + 1, -11, -1, 11, 12, 20, 64, 1 << 32, greatest} {
		for _, x := range fractions("0/1 1/2 1/1024 1/1") {
			fails[string](t, fmt.Sprint("AddressOf with ", length))(impl.AddressOf(x, length))
		}
	}
}

func TestFunctionsOfMapsFailForOtherTexts(t *testing.T) {
	for _, text := range noTrees() {
		fails[[]impl.Fraction](t, "LeafStarts "+short(text))(impl.LeafStarts(text))
		for _, x := range fractions("0/1 1/2 1/1 2/2") {
			fails[int](t, "LeafOf "+short(text))(impl.LeafOf(text, x))
		}
	}
	for _, p := range noPairs() {
		call := shortPair(p)
		for _, x := range fractions("0/1 1/2 1/1 2/2") {
			fails[impl.Fraction](t, "ValueOf "+call)(impl.ValueOf(p, x))
			fails[int](t, "SlopeAt "+call)(impl.SlopeAt(p, x))
		}
		for _, a := range []string{"", "0", "1", "0000000000", "2"} {
			fails[string](t, "ImageOfAddress "+call)(impl.ImageOfAddress(p, a))
		}
		fails[[]int](t, "SlopesOf "+call)(impl.SlopesOf(p))
		fails[[]impl.Fraction](t, "BreaksOf "+call)(impl.BreaksOf(p))
		fails[[]impl.Fraction](t, "BreakValues "+call)(impl.BreakValues(p))
		fails[[]impl.Fraction](t, "FixedFractions "+call)(impl.FixedFractions(p))
		fails[string](t, "GraphText "+call)(impl.GraphText(p))
	}
}

func TestPairOfBreaksOfLongLists(t *testing.T) {
	long := slices.Repeat(fractions("1/2"), 1_000_000)
	fails[impl.Pair](t, "PairOfBreaks of long lists")(impl.PairOfBreaks(long, long))
	fails[impl.Pair](t, "PairOfBreaks at a long list")(impl.PairOfBreaks(long, nil))
	fails[impl.Pair](t, "PairOfBreaks to a long list")(impl.PairOfBreaks(nil, long))
	fails[impl.Pair](t, "PairOfBreaks of 9")(impl.PairOfBreaks(fractionsUpTo(8), fractionsUpTo(8)))
	ten := between(fractionsUpTo(16))[:10]
	fails[impl.Pair](t, "PairOfBreaks of 10")(impl.PairOfBreaks(ten, ten))
}

// TestBreaksAreNotModified gives PairOfBreaks parts of longer lists, so that a change behind the parts would be seen.
func TestBreaksAreNotModified(t *testing.T) {
	at, to := fractions("1/4 3/8 1/2 9/16 3/4 7/9 0/0 1/1 1/2 5/6"), fractions("1/2 5/8 3/4 25/32 7/8 7/9 0/0 1/1 1/2 5/6")
	keptAt, keptTo := slices.Clone(at), slices.Clone(to)
	for n := range len(at) + 1 {
		for m := range len(to) + 1 {
			_, ok := impl.PairOfBreaks(at[:n], to[:m])
			if want := n == m && (n <= 5 && n >= 3 || n == 0); ok != want {
				t.Error("PairOfBreaks", at[:n], to[:m], ok)
			}
			if !slices.Equal(at, keptAt) || !slices.Equal(to, keptTo) {
				t.Fatalf("PairOfBreaks made %v and %v of %v and %v", at, to, keptAt, keptTo)
			}
		}
	}
	gives(t, "PairOfBreaks of one list twice", impl.IdentityPair())(impl.PairOfBreaks(at[:5], at[:5]))
}

// TestMapResultsAreNew changes results up to their capacities: later calls must not see it.
func TestMapResultsAreNew(t *testing.T) {
	p := pair("(((..).)((..).))>((.(..))(.(..)))")
	for range 2 {
		for _, c := range []struct {
			name string
			want string
			got  func() ([]impl.Fraction, bool)
		}{
			{"LeafStarts", "0/1 1/8 1/4 1/2 5/8 3/4", func() ([]impl.Fraction, bool) { return impl.LeafStarts(p.From) }},
			{"BreaksOf", "1/8 1/4 1/2 5/8 3/4", func() ([]impl.Fraction, bool) { return impl.BreaksOf(p) }},
			{"BreakValues", "1/4 3/8 1/2 3/4 7/8", func() ([]impl.Fraction, bool) { return impl.BreakValues(p) }},
			{"FixedFractions", "0/1 1/2 1/1", func() ([]impl.Fraction, bool) { return impl.FixedFractions(p) }},
		} {
			list, ok := c.got()
			gives(t, c.name, fractions(c.want))(list, ok)
			spoil(list, fraction(7, 7))
		}
		slopes, ok := impl.SlopesOf(p)
		gives(t, "SlopesOf", []int{1, 0, -1, 1, 0, -1})(slopes, ok)
		spoil(slopes, 9)
	}
}
