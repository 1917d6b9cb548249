package tests

import (
	"fmt"
	"maps"
	"math"
	"slices"
	"strings"
	"testing"

	"loop.example/g01161/impl"
)

// Maps as functions of floating-point numbers, a second way to tell them, against which the program is held:
// all numbers here have less than 53 places, so that nothing is rounded.

// number returns where the interval of an address begins.
func number(address string) float64 {
	x := 0.0
	for i := len(address) - 1; i >= 0; i-- {
		x = (x + float64(address[i]-'0')) / 2
	}
	return x
}

func width(address string) float64 { return math.Ldexp(1, -len(address)) }

// places returns the address with so many letters of the interval with a number.
func places(x float64, length int) string {
	var b strings.Builder
	for range length {
		x *= 2
		letter := math.Floor(x)
		x -= letter
		b.WriteByte('0' + byte(letter))
	}
	return b.String()
}

func decimal(x impl.Fraction) float64 { return float64(x.Num) / float64(x.Den) }

// fractionFor returns the fraction that is a number, if there is one: that with the least Den that makes Num whole.
func fractionFor(x float64) (impl.Fraction, bool) {
	for den := 1; den <= 1024; den *= 2 {
		if num := x * float64(den); num == math.Floor(num) && 0 <= x && x <= 1 {
			return impl.Fraction{Num: int(num), Den: den}, true
		}
	}
	return impl.Fraction{}, false
}

// fraction returns Num / Den as it is.
func fraction(num int, den int) impl.Fraction { return impl.Fraction{Num: num, Den: den} }

// fractions reads fractions with blanks between them as a test has written them.
func fractions(text string) []impl.Fraction {
	var list []impl.Fraction
	for _, word := range strings.Fields(text) {
		var x impl.Fraction
		fmt.Sscanf(word, "%d/%d", &x.Num, &x.Den)
		list = append(list, x)
	}
	return list
}

// fractionsFor returns the fractions that are numbers, of which each has to be one.
func fractionsFor(list []float64) []impl.Fraction {
	var all []impl.Fraction
	for _, x := range list {
		f, _ := fractionFor(x)
		all = append(all, f)
	}
	return all
}

// fractionsUpTo returns all fractions with a Den of at most den, increasing.
func fractionsUpTo(den int) []impl.Fraction {
	var list []impl.Fraction
	for num := range den + 1 {
		x, _ := fractionFor(float64(num) / float64(den))
		list = append(list, x)
	}
	return list
}

// between returns the fractions of a list without the first and the last one, 0 and 1.
func between(list []impl.Fraction) []impl.Fraction { return list[1 : len(list)-1] }

// value returns to what the rules carry a number.
func (r rules) value(x float64) float64 {
	for a, b := range r {
		if number(a) <= x && x < number(a)+width(a) {
			return number(b) + (x-number(a))*width(b)/width(a)
		}
	}
	return x
}

// slopesBeside returns the slopes on the left and on the right of a number, as powers of 2, by how values change.
func (r rules) slopesBeside(x float64) (float64, float64) {
	const near = 1.0 / 4096
	return math.Log2((r.value(x) - r.value(x-near)) / near), math.Log2((r.value(x+near) - r.value(x)) / near)
}

// breaks returns the numbers, increasing, where both slopes are different; at other ends of leaves there is none.
func (r rules) breaks() []float64 {
	var list []float64
	for a := range r {
		if left, right := r.slopesBeside(number(a)); number(a) > 0 && left != right {
			list = append(list, number(a))
		}
	}
	slices.Sort(list)
	return list
}

func (r rules) values(list []float64) []float64 {
	var values []float64
	for _, x := range list {
		values = append(values, r.value(x))
	}
	return values
}

// graph is a map that is straight between numbers at, 0 and 1 among them, that are carried to others.
type graph struct {
	at []float64
	to []float64
}

func graphThrough(at []impl.Fraction, to []impl.Fraction) graph {
	g := graph{at: []float64{0}, to: []float64{0}}
	for k := range at {
		g.at, g.to = append(g.at, decimal(at[k])), append(g.to, decimal(to[k]))
	}
	return graph{at: append(g.at, 1), to: append(g.to, 1)}
}

func (g graph) slope(k int) float64 { return (g.to[k+1] - g.to[k]) / (g.at[k+1] - g.at[k]) }

// hasPowers reports whether all slopes are powers of 2.
func (g graph) hasPowers() bool {
	for k := range len(g.at) - 1 {
		if part, _ := math.Frexp(g.slope(k)); part != 0.5 {
			return false
		}
	}
	return true
}

// target returns the address to which an interval is carried straight, if there is one.
func (g graph) target(x float64, length int) (string, bool) {
	end := x + math.Ldexp(1, -length)
	k := slices.IndexFunc(g.at, func(y float64) bool { return y > x }) - 1
	for j := k + 1; g.at[j] < end; j++ {
		if g.slope(j) != g.slope(k) {
			return "", false
		}
	}
	to := g.to[k] + (x-g.at[k])*g.slope(k)
	letters := length - int(math.Log2(g.slope(k)))
	address := places(to, letters)
	return address, number(address) == to
}

// rules returns, from 0 on, the widest intervals that are carried straight to others, and whether there are no more than a tree can have.
func (g graph) rules() (rules, bool) {
	r := rules{}
	for x := 0.0; x < 1; {
		length, to := 0, ""
		for fine := false; !fine; length++ {
			if address := places(x, length); number(address) == x {
				to, fine = g.target(x, length)
			}
		}
		r[places(x, length-1)] = to
		x += math.Ldexp(1, 1-length)
		if len(r) > impl.MaxCarets+1 {
			return nil, false
		}
	}
	return r, true
}

// listsOf returns all lists of count of the fractions, increasing.
func listsOf(from []impl.Fraction, count int) [][]impl.Fraction {
	if count == 0 {
		return [][]impl.Fraction{nil}
	}
	var all [][]impl.Fraction
	for k := range from {
		for _, rest := range listsOf(from[k+1:], count-1) {
			all = append(all, append([]impl.Fraction{from[k]}, rest...))
		}
	}
	return all
}

// deepPairs returns pairs of 8 carets, among them those with the steepest slopes.
func deepPairs() []impl.Pair {
	list := somePairs(8, 40)
	for _, a := range []string{left(8), right(8), "(((..)(..))((..)((..).)))", "((((((((..).).).).).).).)"} {
		for _, b := range []string{left(8), right(8), "(((..)(..))(((..).)(..)))"} {
			list = append(list, impl.Pair{From: a, To: b})
		}
	}
	return slices.DeleteFunc(list, func(p impl.Pair) bool { return strings.Count(p.From, "(") != strings.Count(p.To, "(") })
}

// TestMapModel checks the model itself.
func TestMapModel(t *testing.T) {
	if number("011") != 0.375 || places(0.375, 4) != "0110" || width("011") != 0.125 || number("") != 0 || places(0.5, 0) != "" {
		t.Error("numbers", number("011"), places(0.375, 4))
	}
	if list := fmt.Sprint(fractionsUpTo(4), between(fractionsUpTo(2)), len(fractionsUpTo(1024))); list != "[{0 1} {1 4} {1 2} {3 4} {1 1}] [{1 2}] 1025" {
		t.Error("fractions", list)
	}
	if n := len(listsOf(fractionsUpTo(4), 2)); n != 10 {
		t.Error("lists", n)
	}
	if list := deepPairs(); len(list) < 45 {
		t.Error("deep pairs", len(list))
	}
	for _, p := range pairsUpTo(3) {
		r := rulesOf(p)
		again, ok := graphThrough(fractionsFor(r.breaks()), fractionsFor(r.values(r.breaks()))).rules()
		if !ok || !maps.Equal(again, r.reduced()) {
			t.Error("graph of", p, again)
		}
	}
}
