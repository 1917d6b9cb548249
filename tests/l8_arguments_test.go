package tests

import (
	"fmt"
	"slices"
	"strings"
	"testing"

	"loop.example/g01161/impl"
)

// Promise 11, for chapter 8: all arguments are accepted without panicking, none is modified.

// noTables returns lists that are no tables: with other numbers of rows, with rows of other lengths, and with numbers that are none of the things.
func noTables() [][][]int {
	list := [][][]int{
		nil, {}, {nil}, {{}}, {nil, nil}, {{0}, nil}, {nil, {0}}, {{0, 0}}, {{0}, {0}}, {{0, 0}, {0}}, {{0}, {0, 0}}, {{0, 0}, {0, 0, 0}}, {{0, 0, 0}, {0, 0}},
		{{0, 0}, {0, 0}, {0, 0}}, {{0, 0, 0}, {0, 0, 0}}, {{0, 0}, {0, 0}, nil}, {nil, {0, 0}, {0, 0}}, {{0, 0, 0}, {0, 0, 0}, {0, 0}}, {{0, 0}, {0, 0, 0}, {0, 0, 0, 0}},
		slices.Repeat([][]int{make([]int, 5)}, 5), slices.Repeat([][]int{make([]int, 4)}, 5), slices.Repeat([][]int{make([]int, 5)}, 4), make([][]int, 4),
		make([][]int, 1_000_000), {make([]int, 1_000_000)}, slices.Repeat([][]int{make([]int, 1_000_000)}, 4), slices.Repeat([][]int{{0}}, 1_000_000),
	}
	for n := 1; n <= 4; n++ {
		for _, number := range []int{least, -1 << 32, -1, n, n + 1, 1 << 32, greatest} {
			for place := range n * n {
				table := tableOf(n, func(int, int) int { return 0 })
				table[place/n][place%n] = number
				list = append(list, table)
			}
		}
	}
	return list
}

// noTableCall names a call with a table that may be long.
func noTableCall(name string, table [][]int) string {
	for _, row := range table[:min(len(table), 5)] {
		name += fmt.Sprint(" ", row[:min(len(row), 5)])
	}
	return name
}

func TestBracketsOfOtherTexts(t *testing.T) {
	nor := brokenTables()["nor"]
	for _, text := range noTrees() {
		call := short(text)
		for _, at := range []string{"", "0", "1", "00", "2", "."} {
			fails[string](t, "RotateAt "+call)(impl.RotateAt(text, at))
			fails[string](t, "RotateBack "+call)(impl.RotateBack(text, at))
			fails[impl.Pair](t, "RotationPair "+call)(impl.RotationPair(text, at))
		}
		fails[[]string](t, "PlacesToRotate "+call)(impl.PlacesToRotate(text))
		fails[int](t, "CountRotations "+call)(impl.CountRotations(text))
		fails[[]string](t, "NeighboursOf "+call)(impl.NeighboursOf(text))
		fails[[]string](t, "ChainToRight "+call)(impl.ChainToRight(text))
		for _, tree := range []string{".", "(..)", right(3), text} {
			fails[[]string](t, "ChainBetween "+call)(impl.ChainBetween(text, tree))
			fails[[]string](t, "ChainBetween with "+call)(impl.ChainBetween(tree, text))
			fails[int](t, "RotationDistance "+call)(impl.RotationDistance(text, tree))
			fails[int](t, "RotationDistance with "+call)(impl.RotationDistance(tree, text))
		}
		for n := range 11 {
			fails[int](t, "ValueOfTree "+call)(impl.ValueOfTree(text, nor, make([]int, n)))
			fails[string](t, "BracketText "+call)(impl.BracketText(text, "abcdefghijk"[:n]))
		}
	}
	for _, p := range noPairs() {
		for _, table := range [][][]int{nor, {{0}}, nil} {
			fails[bool](t, "KeepsValues "+shortPair(p))(impl.KeepsValues(p, table))
		}
	}
}

func TestTurnsAtOtherAddresses(t *testing.T) {
	for _, at := range []string{
		"2", "/", " ", "0 ", " 0", "x", "0x", "00x", "-", "L", "\x00", "0\x00", "\xff", "\xb0", "\u0660", "(", ".", "((..).)", "02", "20", "0000000000",
		strings.Repeat("0", 10_000_000), strings.Repeat("1", 10_000_000), strings.Repeat("01", 5_000_000), strings.Repeat("\xff", 10_000_000),
	} {
		for _, tree := range []string{".", "(..)", "((..).)", "(.(..))", "(((..)(..))((..)(..)))", left(8), right(8)} {
			call := short(tree) + " " + short(at)
			fails[string](t, "RotateAt "+call)(impl.RotateAt(tree, at))
			fails[string](t, "RotateBack "+call)(impl.RotateBack(tree, at))
			fails[impl.Pair](t, "RotationPair "+call)(impl.RotationPair(tree, at))
		}
	}
}

func TestOtherTables(t *testing.T) {
	for _, table := range noTables() {
		for _, tree := range []string{".", "(..)", "((..).)", left(8)} {
			fails[int](t, noTableCall("ValueOfTree "+tree, table))(impl.ValueOfTree(tree, table, make([]int, strings.Count(tree, "."))))
		}
		for _, text := range []string{".>.", "(..)>(..)", "((..).)>(.(..))", left(4) + ">" + right(4)} {
			fails[bool](t, noTableCall("KeepsValues "+text, table))(impl.KeepsValues(pair(text), table))
		}
		fails[bool](t, noTableCall("IsAssociative", table))(impl.IsAssociative(table))
		fails[[]int](t, noTableCall("FirstBroken", table))(impl.FirstBroken(table))
	}
}

// TestValuesForOtherNumbers has more and fewer numbers than leaves, and numbers that are none of the table.
func TestValuesForOtherNumbers(t *testing.T) {
	for name, table := range groupTables() {
		for _, tree := range []string{".", "(..)", "((..).)", "(.(..))", left(8), right(8)} {
			leaves := strings.Count(tree, ".")
			for _, n := range []int{0, 1, 2, 3, 4, 8, 9, 10, 1_000_000} {
				if n != leaves {
					fails[int](t, fmt.Sprint("ValueOfTree ", tree, name, n))(impl.ValueOfTree(tree, table, make([]int, n)))
				}
			}
			for _, number := range []int{least, -1 << 32, -2, -1, len(table), len(table) + 1, 1 << 32, greatest} {
				for leaf := range leaves {
					values := make([]int, leaves)
					values[leaf] = number
					fails[int](t, fmt.Sprint("ValueOfTree ", tree, name, values))(impl.ValueOfTree(tree, table, values))
				}
			}
		}
	}
}

func TestOtherLetters(t *testing.T) {
	for _, letters := range []string{
		"", "a", "ab", "abcd", "ab ", " bc", "a c", "ABC", "abC", "ab1", "a.c", "a(c", "ab\n", "ab\x00", "\xffbc", "ab\xff", "a\u00e9", "\u00e9a", "\u0430bc", "ab\u0441", "\u4e2d", "\u00e4\u00f6\u00fc",
		"`bc", "{bc", "ab`", "ab{", "@bc", "[bc", strings.Repeat("a", 10_000_000), strings.Repeat("\xff", 10_000_000),
	} {
		fails[string](t, "BracketText "+short(letters))(impl.BracketText("((..).)", letters))
	}
}

// longTable returns a table as parts of longer lists, so that a change behind the parts would be seen, and these lists.
func longTable(table [][]int) ([][]int, [][]int) {
	var whole [][]int
	for _, row := range table {
		whole = append(whole, append(slices.Clone(row), 7, -7))
	}
	whole = append(whole, []int{70, -70}, nil)
	parts := slices.Clone(whole)
	for i := range table {
		parts[i] = parts[i][:len(table)]
	}
	return parts[:len(table)], whole
}

func TestTablesAreNotModified(t *testing.T) {
	for _, table := range someTables() {
		parts, whole := longTable(table)
		kept := fmt.Sprint(whole, parts[:cap(parts)])
		values := []int{0, 0, 0, len(table) - 1, 0, 9, -9}
		is, ok := impl.IsAssociative(parts)
		first, broken := changed("((..).)", "(.(..))", table)
		gives(t, fmt.Sprint("IsAssociative ", table), !broken)(is, ok)
		got, ok := impl.FirstBroken(parts)
		if ok != broken || !slices.Equal(got, first) {
			t.Error("FirstBroken", table, got, ok)
		}
		spoil(got, 99)
		impl.KeepsValues(pair(left(4)+">"+right(4)), parts)
		gives(t, fmt.Sprint("ValueOfTree ", table), valueOf(left(4), table, values[:5]))(impl.ValueOfTree(left(4), parts, values[:5]))
		if !slices.Equal(values, []int{0, 0, 0, len(table) - 1, 0, 9, -9}) {
			t.Fatal("numbers are now", values)
		}
		if now := fmt.Sprint(whole, parts[:cap(parts)]); now != kept {
			t.Fatalf("a table is now %s, not %s", now, kept)
		}
	}
}

// TestBracketResultsAreNew changes results up to their capacities: later calls must not see it.
func TestBracketResultsAreNew(t *testing.T) {
	for range 2 {
		for name, function := range map[string]func() ([]string, bool){
			"PlacesToRotate": func() ([]string, bool) { return impl.PlacesToRotate("(((..).)((..).))") },
			"NeighboursOf":   func() ([]string, bool) { return impl.NeighboursOf("((..)(..))") },
			"ChainToRight":   func() ([]string, bool) { return impl.ChainToRight(left(3)) },
			"ChainBetween":   func() ([]string, bool) { return impl.ChainBetween("((..).)", "((..).)") },
		} {
			want := map[string][]string{
				"PlacesToRotate": {"", "0", "1"}, "NeighboursOf": {left(3), right(3)}, "ChainToRight": {left(3), "((..)(..))", right(3)},
				"ChainBetween": {"((..).)", "(.(..))", "((..).)"},
			}[name]
			list, ok := function()
			gives(t, name, want)(list, ok)
			spoil(list, "spoilt")
		}
		first, ok := impl.FirstBroken(brokenTables()["winners"])
		gives(t, "FirstBroken", []int{0, 1, 2})(first, ok)
		spoil(first, 99)
	}
}
