package tests

import (
	"fmt"
	"testing"

	"loop.example/g01161/impl"
)

// Promise 11, for chapter 6: all arguments are accepted without panicking, none is modified.
// Pairs, fractions and numbers are passed as values, so that no function here could modify one.

func TestOrbitsOfOtherTexts(t *testing.T) {
	for _, p := range noPairs() {
		call := shortPair(p)
		fails[[2]int](t, "EndSlopes "+call)(both(impl.EndSlopes(p)))
		fails[bool](t, "IsInner "+call)(impl.IsInner(p))
		fails[[][]impl.Ratio](t, "FixedIntervals "+call)(impl.FixedIntervals(p))
		fails[[][]impl.Ratio](t, "MovedIntervals "+call)(impl.MovedIntervals(p))
		fails[[]int](t, "DirectionsOf "+call)(impl.DirectionsOf(p))
		fails[[]impl.Pair](t, "PiecesOf "+call)(impl.PiecesOf(p))
		for _, x := range fractions("0/1 1/2 1/1 2/2 0/0") {
			fails[[2]int](t, "SlopesBeside "+call)(both(impl.SlopesBeside(p, x)))
			for _, steps := range []int{least, -1, 0, 1, 20, 21, greatest} {
				fails[[]impl.Fraction](t, "OrbitOf "+call)(impl.OrbitOf(p, x, steps))
			}
			for _, y := range fractions("0/1 1/2 1/1 2/2 0/0") {
				fails[impl.Pair](t, "PieceBetween "+call)(impl.PieceBetween(p, x, y))
			}
		}
		for _, q := range []impl.Pair{impl.IdentityPair(), {From: left(8), To: right(8)}, p} {
			fails[bool](t, "DoCommute "+call)(impl.DoCommute(p, q))
			fails[bool](t, "DoCommute with "+call)(impl.DoCommute(q, p))
			fails[bool](t, "AreApart "+call)(impl.AreApart(p, q))
			fails[bool](t, "AreApart with "+call)(impl.AreApart(q, p))
		}
	}
}

func TestOrbitsOfOtherFractions(t *testing.T) {
	for _, f := range noFractions() {
		call := fmt.Sprint(f)
		for _, p := range []impl.Pair{impl.IdentityPair(), pair(twoPieces), {From: left(8), To: right(8)}} {
			fails[[2]int](t, "SlopesBeside "+call)(both(impl.SlopesBeside(p, f)))
			for _, steps := range []int{least, -1, 0, 1, 20, 21, greatest} {
				fails[[]impl.Fraction](t, "OrbitOf "+call)(impl.OrbitOf(p, f, steps))
			}
			for _, x := range append(fractions("0/1 1/2 1/1"), f) {
				fails[impl.Pair](t, "PieceBetween "+call)(impl.PieceBetween(p, f, x))
				fails[impl.Pair](t, "PieceBetween with "+call)(impl.PieceBetween(p, x, f))
			}
		}
		for _, x := range append(fractions("0/1 1/2 3/4 1/1024 1/1"), f) {
			fails[impl.Pair](t, "CarrierOf "+call)(impl.CarrierOf(f, x))
			fails[impl.Pair](t, "CarrierOf with "+call)(impl.CarrierOf(x, f))
		}
	}
}

func TestStepsOfOrbits(t *testing.T) {
	for _, steps := range []int{least, least + 1, -1 << 32, -21, -20, -2, -1, 21, 22, 100, 1 << 31, 1 << 32, greatest - 1, greatest} {
		for _, x := range fractions("0/1 1/2 1/1") {
			for _, p := range []impl.Pair{impl.IdentityPair(), pair(twoPieces), pair("((..).)>(.(..))")} {
				fails[[]impl.Fraction](t, fmt.Sprint("OrbitOf ", steps))(impl.OrbitOf(p, x, steps))
			}
		}
	}
}

// checkEnds changes each list of both ends up to its capacity, and looks whether it has changed those behind it.
func checkEnds(t *testing.T, name string, want [][]impl.Ratio, got [][]impl.Ratio, ok bool) {
	t.Helper()
	gives(t, name, want)(got, ok)
	for k := range got {
		spoil(got[k], impl.Ratio{Num: 7, Den: 7})
		gives(t, name+" behind a list that is changed", want[k+1:])(got[k+1:], ok)
	}
	spoil(got, []impl.Ratio{{Num: 9, Den: 9}})
}

// TestOrbitResultsAreNew changes results up to their capacities: neither later calls nor other parts of a result must see it.
func TestOrbitResultsAreNew(t *testing.T) {
	p := pair(threePieces)
	for range 2 {
		fixed, ok := impl.FixedIntervals(p)
		checkEnds(t, "FixedIntervals", ratiosIn("0 1/2 3/4 1"), fixed, ok)
		moved, ok := impl.MovedIntervals(p)
		checkEnds(t, "MovedIntervals", ratiosIn("0-1/2 1/2-3/4 3/4-1"), moved, ok)
		directions, ok := impl.DirectionsOf(p)
		gives(t, "DirectionsOf", []int{1, 1, 1})(directions, ok)
		spoil(directions, 9)
		orbit, ok := impl.OrbitOf(p, fraction(1, 8), 2)
		gives(t, "OrbitOf", fractions("1/8 1/4 3/8"))(orbit, ok)
		spoil(orbit, fraction(7, 7))
		pieces, ok := impl.PiecesOf(p)
		gives(t, "PiecesOf", rulesOf(p).pieces())(pieces, ok)
		spoil(pieces, p)
	}
}
