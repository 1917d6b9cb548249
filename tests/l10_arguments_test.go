package tests

import (
	"strings"
	"testing"

	"loop.example/g01161/impl"
)

// Promise 11, for chapter 10: all arguments are accepted without panicking, none is modified.

// lineResult is what DeskLine returns beside whether it succeeds.
type lineResult struct {
	pair  impl.Pair
	reply string
}

// failsLine checks a DeskLine that has to fail.
func failsLine(t *testing.T, p impl.Pair, line string) {
	t.Helper()
	got, reply, ok := impl.DeskLine(p, line)
	fails[lineResult](t, "DeskLine "+shortPair(p)+" "+short(line))(lineResult{got, reply}, ok)
}

func TestLinesForOtherPairs(t *testing.T) {
	for _, p := range noPairs() {
		for _, line := range []string{"", "show", "fly", "reduce", "invert", "length", "pair .>.", "word x0", "rules x1.x0", "times 1", "expand 0", "power 0", "forest", "graph", "from", "to"} {
			failsLine(t, p, line)
		}
	}
}

func TestGreatTextsAreNoScripts(t *testing.T) {
	for _, text := range []string{
		strings.Repeat("\n", 51), strings.Repeat("\n", 3000), strings.Repeat("\n", 10_000_000), strings.Repeat("show\n", 2_000_000), strings.Repeat(" ", 10_000_000), strings.Repeat("(", 10_000_000) + "\n",
		"pair " + strings.Repeat("(", 10_000_000) + "\n", "word " + strings.Repeat("x0.", 1_000_000) + "x0\n", "power " + strings.Repeat("0", 10_000_000) + "\n", strings.Repeat("\xff", 10_000_000), strings.Repeat("\x00\n", 1_000_000),
	} {
		isNoScript(t, text)
		failsLine(t, impl.FirstDesk(), text)
		failsLine(t, impl.FirstDesk(), strings.ReplaceAll(text, "\n", "\r")+strings.Repeat(" ", 3000))
	}
}

// TestAllShortScripts tries all texts of at most five of some letters.
func TestAllShortScripts(t *testing.T) {
	for _, text := range textsOf("to \n1\x00", 5) {
		lines := strings.Split(text, "\n")
		last := len(lines) - 1
		if lines[last] != "" {
			isNoScript(t, text)
			continue
		}
		runs(t, text, sessionOf(lines[:last]))
	}
}

// TestAllBytesInLines puts each byte in front of lines, behind them, and in place of one of theirs.
func TestAllBytesInLines(t *testing.T) {
	p := pair("((..).)>(.(..))")
	for b := range 256 {
		c := string([]byte{byte(b)})
		for _, line := range []string{"show", "to", "power 2", "expand 1", "word x1.x0'", "rules x1.x0", "pair ((..).)>(.(..))", ""} {
			texts := []string{c + line, line + c}
			for k := range len(line) {
				texts = append(texts, line[:k]+c+line[k+1:], line[:k]+c+line[k:])
			}
			for _, text := range texts {
				if c == "\n" {
					failsLine(t, p, text)
					continue
				}
				wantPair, wantReply := answered(p, text)
				got, reply, ok := impl.DeskLine(p, text)
				gives(t, "DeskLine "+short(text), lineResult{wantPair, wantReply})(lineResult{got, reply}, ok)
			}
		}
	}
}

// TestConsoleResultsAreNew changes results up to their capacities: later calls must not see it.
func TestConsoleResultsAreNew(t *testing.T) {
	script := "length\nfly\nexpand 9\nshow\n"
	for range 2 {
		list, ok := impl.RunScript(script)
		gives(t, "RunScript", []string{"1", "what", "no", x0})(list, ok)
		spoil(list, "spoilt")
		numbers, ok := impl.FailedLines(script)
		gives(t, "FailedLines", []int{2, 3})(numbers, ok)
		spoil(numbers, 99)
		p, ok := impl.DeskAfter(script)
		gives(t, "DeskAfter", impl.FirstDesk())(p, ok)
	}
}

// TestNoDeskIsKept runs scripts one behind the other: each begins with the first desk.
func TestNoDeskIsKept(t *testing.T) {
	for range 2 {
		for _, line := range []string{"shift", "power 2", "pair .>.", "invert", "fly", "expand 9"} {
			lines := []string{line, "show"}
			runs(t, scriptOf(lines), sessionOf(lines))
			impl.DeskLine(pair(".>."), line)
			if impl.FirstDesk() != generator(0).pair() {
				t.Error("FirstDesk behind", line)
			}
		}
	}
}
