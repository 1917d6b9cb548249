package tests

import (
	"fmt"
	"math/rand"
	"slices"
	"strings"
	"testing"

	"loop.example/g01161/impl"
)

// Promise 10: scripts do what the calls do that they name.

func TestLimitsOfConsole(t *testing.T) {
	if impl.MaxScript != 3000 || impl.MaxLines != 50 {
		t.Error("limits", impl.MaxScript, impl.MaxLines)
	}
	if p := impl.FirstDesk(); p != pair("((..).)>(.(..))") {
		t.Error("FirstDesk", p)
	}
}

// TestExampleOfConsole has the example of the chapter.
func TestExampleOfConsole(t *testing.T) {
	script := "length\ngraph\nshift\nnormal\nrules x1.x0\ntimes x0\nforest\nfly\n"
	want := []string{"1", "1/4>1/2,1/2>3/4", "(.((..).))>(.(.(..)))", "x1", "x0.x2", "((..)((..).))>(.(.(.(..))))", "(..) (..)/-", "what"}
	runs(t, script, session{pair: pair(want[5]), replies: want, failed: []int{8}})
}

const (
	x0    = "((..).)>(.(..))"
	x1    = "(.((..).))>(.(.(..)))"
	x6    = "(.(.(.(.(.(.((..).)))))))>(.(.(.(.(.(.(.(..))))))))"
	twice = "(((..).).)>(.(.(..)))"
)

// scriptsByHand are scripts in which a line has its reply behind a colon.
func scriptsByHand() []string {
	return []string{
		"show: " + x0 + "; from: 1,0,0; to: 0,0,0; normal: x0; short: x0; length: 1; forest: (..)/-; graph: 1/4>1/2,1/2>3/4; show: " + x0,
		"pair .>.: .>.; from: 0; to: 0; forest: -/-; length: 0; short: 1; normal: 1; graph: -; reduce: .>.; invert: .>.; mirror: .>.; shift: .>.; power 10: .>.; show: .>.",
		"pair ((..).)>((..).): ((..).)>((..).); show: ((..).)>((..).); from: 1,0,0; to: 1,0,0; normal: 1; forest: -/-; length: 0; short: 1; graph: -; invert: ((..).)>((..).); mirror: (.(..))>(.(..)); reduce: .>.",
		"power 2: " + twice + "; from: 2,0,0,0; to: 0,0,0,0; normal: x0.x0; length: 2; invert: (.(.(..)))>(((..).).); forest: -/((..).); normal: x0'.x0'; power 0: .>.; show: .>.",
		"invert: (.(..))>((..).); normal: x0'; from: 0,0,0; to: 1,0,0; forest: -/(..); graph: 1/2>1/4,3/4>1/2; times x0: .>.",
		"shift: " + x1 + "; from: 0,1,0,0; to: 0,0,0,0; mirror: ((.(..)).)>(((..).).); shift: (.((.(..)).))>(.(((..).).)); forest: . (.(..))/. ((..).); shift: (.(.((.(..)).)))>(.(.(((..).).)))",
		"word x1.x0: ((..)((..).))>(.(.(.(..)))); normal: x0.x2; times x0': (.((..).))>(.(.(..))); word x0.x1.x1'.x0': .>.; word x6: " + x6 + "; times 1: " + x6 + "; word 1: .>.",
		"rules x1.x0: x0.x2; rules 1: 1; rules x0.x0': 1; rules x0.x2.x0': x1; rules x2'.x0: x0.x3'; rules x20.x0: no; rules x19.x0: x0.x20; rules x20: x20; rules x21: what; show: " + x0,
		"expand 0: (((..).).)>((..)(..)); from: 2,0,0,0; to: 1,0,0,0; normal: x0; expand 3: (((..).)(..))>((..)(.(..))); expand 5: no; show: (((..).)(..))>((..)(.(..))); reduce: " + x0,
		"shift: " + x1 + "; shift: (.(.((..).)))>(.(.(.(..)))); short: x0'.x1.x0; length: 3; graph: 3/4>3/4,13/16>7/8,7/8>15/16",
		"power 7: ((((((((..).).).).).).).)>(.(.(.(.(.(.(.(..)))))))); power 2: no; power 1: ((((((((..).).).).).).).)>(.(.(.(.(.(.(.(..)))))))); times x0: no; shift: no; expand 0: no; short: x0.x0.x0.x0.x0.x0.x0; length: 7; show: ((((((((..).).).).).).).)>(.(.(.(.(.(.(.(..))))))))",
		"power 8: no; power 11: no; expand 3: no; word x7: no; times x7: no; fly: what; power: what; show: " + x0 + "; show : what; : what; length: 1",
		"word x6: " + x6 + "; times x6: no; times x6': .>.; times x6: " + x6 + "; times x5.x5': " + x6 + "; times x20.x20': no; word x20.x20': no; show: " + x6,
		"pair " + right(8) + ">" + left(8) + ": " + right(8) + ">" + left(8) + "; from: 0,0,0,0,0,0,0,0,0; to: 7,0,0,0,0,0,0,0,0; pair " + right(9) + ">" + left(9) + ": what; normal: x0'.x0'.x0'.x0'.x0'.x0'.x0'",
	}
}

func TestScriptsByHand(t *testing.T) {
	for _, script := range scriptsByHand() {
		var lines []string
		want := session{}
		for k, step := range strings.Split(script, "; ") {
			line, reply, _ := strings.Cut(step, ": ")
			lines = append(lines, line)
			want.replies = append(want.replies, reply)
			if reply == "no" || reply == "what" {
				want.failed = append(want.failed, k+1)
			}
		}
		want.pair = sessionOf(lines).pair
		runs(t, scriptOf(lines), want)
		if last := len(lines) - 1; lines[last] == "show" && want.replies[last] != want.pair.From+">"+want.pair.To {
			t.Error("the pair behind", script, "is", want.pair)
		}
	}
}

// consolePairs are pairs of all kinds, whether reduced or not.
func consolePairs() []impl.Pair {
	list := slices.Concat(pairsUpTo(3), deadEnds(), somePairs(5, 10), somePairs(7, 10), deepPairs(), widePairs())
	for k := range 7 {
		list = append(list, generator(k).pair(), generator(k).inverse().pair())
	}
	return list
}

// consoleWords are texts of words: short ones, such as rules change and drop, and such as have too great letters or pairs.
func consoleWords() []string {
	list := []string{"1", "x0", "x1'", "x6", "x6'", "x7", "x20", "x20'", "x20.x0", "x0'.x20", "x1.x1'", "x7.x7'", "x0.x6.x6", "x0.x2.x0'", "x3.x1.x2'", strings.Repeat("x0.", 19) + "x0", strings.Repeat("x0.x0'.", 9) + "x1'.x0"}
	for _, w := range someWords(5, 3, 10) {
		list = append(list, textOfWord(w))
	}
	return list
}

// consoleLines are all lines of the table, with words of all kinds that are none, too.
func consoleLines() []string {
	list := allCommands()
	for _, w := range append(consoleWords(), "x21", "x", "", "x00", "x0.", "X0", "x0x1", "2", strings.Repeat("x0.", 20)+"x0") {
		list = append(list, "word "+w, "times "+w, "rules "+w)
	}
	for _, number := range []string{"0", "1", "2", "3", "4", "5", "6", "7", "8", "9", "10", "11", "12", "99", "999999", "1000000", "00", "01", "+1", "-1", "-0", "", "1.0", "a"} {
		list = append(list, "expand "+number, "power "+number)
	}
	for _, text := range []string{".>.", "(..)>(..)", x0, x6, twice, left(8) + ">" + right(8), left(9) + ">" + right(9), ".>(..)", ".", ">", "", ".>.>.", "(.>.)", x0 + ".", "(.(..))((..).)"} {
		list = append(list, "pair "+text)
	}
	return append(list, "", "fly", "Show", "SHOW", "reducepair", "shows", "sho", " show", "show ", "show\r", "show\t", "\x00", "\xff", "x0", ".>.", "no", "what")
}

// allCommands returns the first words of all lines of the table, in order.
func allCommands() []string {
	var list []string
	for name := range effects() {
		list = append(list, name)
	}
	for name := range replies() {
		list = append(list, name)
	}
	slices.Sort(list)
	return list
}

// TestLines holds each line for each pair against the calls that it names.
func TestLines(t *testing.T) {
	seen := map[string]int{}
	lines := consoleLines()
	for _, p := range consolePairs() {
		for _, line := range lines {
			wantPair, wantReply := answered(p, line)
			got, reply, ok := impl.DeskLine(p, line)
			if !ok || got != wantPair || reply != wantReply {
				t.Fatalf("DeskLine %v %q is %v, %q, %v, not %v, %q", p, line, got, reply, ok, wantPair, wantReply)
			}
			name, _, _ := strings.Cut(line, " ")
			seen[name+" "+reply]++
		}
	}
	// Each line that can fail has failed for some pairs or words, and not for others.
	for _, name := range []string{"word", "times", "expand", "power", "shift", "rules", "short"} {
		if seen[name+" no"] == 0 {
			t.Error("nothing failed:", name)
		}
	}
	for _, name := range []string{"reduce", "invert", "mirror", "show", "normal", "from", "to", "length", "forest", "graph", "pair"} {
		if seen[name+" no"] > 0 {
			t.Error("failed:", name)
		}
	}
}

// TestNumbersOfWords has a line with too few words and one with too many for each line of the table.
func TestNumbersOfWords(t *testing.T) {
	second := map[string]string{"pair": ".>.", "word": "x1", "times": "x1", "rules": "x1", "expand": "1", "power": "2"}
	x := generator(0).pair()
	for _, name := range allCommands() {
		full := name
		wrong := []string{}
		if word, has := second[name]; has {
			full = name + " " + word
			wrong = append(wrong, name, name+" ", name+"  ", name+"  "+word, name+word, word+" "+name, full+" "+word, full+" "+full)
		} else {
			wrong = append(wrong, name+" 1", name+" x1", name+" .>.", name+" "+name, name+" 0 0")
		}
		if _, reply, ok := impl.DeskLine(x, full); !ok || reply == "what" || reply == "no" {
			t.Error("DeskLine", full, reply, ok)
		}
		for _, line := range append(wrong, full+" ", " "+full, full+"  ", "  "+full, full+" 1", full+" x", "\t"+full, full+"\t", full+"\r", full+"\x00", strings.ToUpper(full), strings.ToUpper(name[:1])+full[1:], full[:len(name)-1]) {
			got, reply, ok := impl.DeskLine(x, line)
			if !ok || got != x || reply != "what" {
				t.Errorf("DeskLine %q is %v, %q, %v", line, got, reply, ok)
			}
		}
	}
}

// TestNumbersInLines has numbers and texts that are none: I and K are in 0..999999.
func TestNumbersInLines(t *testing.T) {
	none := pair(".>.")
	for text, want := range map[string][2]string{
		"0": {"(..)>(..)", ".>."}, "1": {"no", ".>."}, "2": {"no", ".>."}, "9": {"no", ".>."}, "10": {"no", ".>."}, "11": {"no", "no"}, "12": {"no", "no"}, "100": {"no", "no"}, "99999": {"no", "no"},
		"100000": {"no", "no"}, "999998": {"no", "no"}, "999999": {"no", "no"}, "1000000": {"what", "what"}, "1000001": {"what", "what"}, "9999999": {"what", "what"}, "10000000": {"what", "what"},
		"9223372036854775807": {"what", "what"}, "9223372036854775808": {"what", "what"}, "18446744073709551616": {"what", "what"}, "18446744073709551617": {"what", "what"}, "4294967296": {"what", "what"},
		"00": {"what", "what"}, "01": {"what", "what"}, "007": {"what", "what"}, "0000000": {"what", "what"}, "0999999": {"what", "what"}, "-0": {"what", "what"}, "+0": {"what", "what"}, "-1": {"what", "what"}, "+1": {"what", "what"}, "-10": {"what", "what"},
		"": {"what", "what"}, " ": {"what", "what"}, "-": {"what", "what"}, "+": {"what", "what"}, "1.0": {"what", "what"}, "1e0": {"what", "what"}, "0x1": {"what", "what"}, "0b1": {"what", "what"}, "1_0": {"what", "what"}, "1,0": {"what", "what"},
		"\u0660": {"what", "what"}, "\uff10": {"what", "what"}, "0\x00": {"what", "what"}, "x0": {"what", "what"}, "one": {"what", "what"}, strings.Repeat("0", 2900): {"what", "what"}, strings.Repeat("9", 2900): {"what", "what"},
	} {
		for k, name := range []string{"expand", "power"} {
			behind := none
			if want[k] != "no" && want[k] != "what" {
				behind = pair(want[k])
			}
			got, reply, ok := impl.DeskLine(none, name+" "+text)
			if !ok || got != behind || reply != want[k] {
				t.Errorf("DeskLine %s %s is %v, %q, %v, not %q", name, short(text), got, reply, ok, want[k])
			}
		}
	}
}

// TestTextsInLines has texts that are no PairTexts, and texts that are no WordTexts.
func TestTextsInLines(t *testing.T) {
	x := generator(0).pair()
	unknown := func(line string) {
		if len(line) > impl.MaxScript || strings.Contains(line, "\n") {
			return
		}
		got, reply, ok := impl.DeskLine(x, line)
		if !ok || got != x || reply != "what" {
			t.Errorf("DeskLine %s is %v, %q, %v", short(line), got, reply, ok)
		}
	}
	for _, p := range noPairs() {
		unknown("pair " + p.From + ">" + p.To)
	}
	for _, text := range []string{"", ">", ".", ".>", ">.", ". > .", ".> .", ".>.>.", "x0", "1", ".<.", "..", ">.>.", right(3), "(..)>[..]", "(.(.>.).)"} {
		unknown("pair " + text)
	}
	for _, name := range []string{"word", "times", "rules"} {
		for _, text := range []string{"", "0", "2", "x", "x0.", ".x0", "x0..x1", "x0''", "'x0", "x00", "x01", "x21", "x21'", "x-1", "x+1", "X0", "x0,x1", "x0 x1", "x0. x1", "1.x0", "x0.1", "1.1", "1'", ".>.", "x0\u2019", "x\u0660", "-1"} {
			unknown(name + " " + text)
		}
		unknown(name + " " + strings.Repeat("x0.", 20) + "x0")
		unknown(name + " " + strings.Repeat("x0.", 19) + "x21")
		unknown(name + " " + strings.Repeat("x0.", 990) + "x0")
	}
	for _, text := range textsOf("1x0.'", 4) {
		for _, name := range []string{"word", "times", "rules"} {
			if !isWordText(text) {
				unknown(name + " " + text)
			}
		}
	}
	for _, text := range textsOf("(.)>", 5) {
		if !isPairText(text) {
			unknown("pair " + text)
		}
	}
}

// TestNothingChangesBehindFailedLines has lines for which a call fails, between others that show the pair.
func TestNothingChangesBehindFailedLines(t *testing.T) {
	seven := generator(0).power(7).pair()
	for _, c := range []struct {
		from impl.Pair
		line string
	}{
		{generator(0).pair(), "expand 3"}, {generator(0).pair(), "expand 9"}, {generator(0).pair(), "expand 999999"}, {pair(".>."), "expand 1"}, {seven, "expand 0"}, {seven, "expand 8"}, {seven, "expand 9"},
		{generator(0).pair(), "power 8"}, {generator(0).pair(), "power 10"}, {generator(0).pair(), "power 11"}, {pair(".>."), "power 11"}, {pair(".>."), "power 999999"}, {seven, "power 2"},
		{seven, "times x0"}, {generator(6).pair(), "times x6"}, {seven, "times x6"}, {generator(0).pair(), "times x7"}, {generator(0).pair(), "times x0.x0.x0.x0.x0.x0.x0.x0.x0'"},
		{generator(0).pair(), "word x7"}, {generator(0).pair(), "word x20'"}, {generator(0).pair(), "word x7.x7'"}, {generator(0).pair(), "word x0.x0.x0.x0.x0.x0.x0.x0"}, {generator(0).pair(), "word x6.x6.x6'"},
		{seven, "shift"}, {generator(6).pair(), "shift"}, {pair("((.(((.(..)).)((..).))).)>((.(.((.(.(..)))(..)))).)"), "short"}, {generator(0).pair(), "rules x20.x0"}, {generator(0).pair(), "rules x0'.x20.x20'"},
	} {
		text := c.from.From + ">" + c.from.To
		got, reply, ok := impl.DeskLine(c.from, c.line)
		_, want := answered(c.from, c.line)
		if !ok || got != c.from || reply != "no" || want != "no" {
			t.Errorf("DeskLine %s %s is %v, %q, %v, and %q by calls", text, c.line, got, reply, ok, want)
		}
		lines := []string{"pair " + text, c.line, "show", c.line, c.line, "fly", "show"}
		runs(t, scriptOf(lines), session{pair: c.from, replies: []string{text, "no", text, "no", "no", "what", text}, failed: []int{2, 4, 5, 6}})
	}
}

// TestScripts holds scripts of lines in any order against the model, and against lines alone.
func TestScripts(t *testing.T) {
	random := rand.New(rand.NewSource(10))
	all := consoleLines()
	good := []string{"times x0", "times x1", "times x0'", "times x1'", "shift", "mirror", "invert", "power 2", "reduce", "expand 1", "expand 2", "show", "short", "normal", "from", "to", "forest", "graph", "length"}
	for k := range 600 {
		var lines []string
		for range random.Intn(impl.MaxLines + 1) {
			line := good[random.Intn(len(good))]
			if random.Intn(3) == 0 {
				line = all[random.Intn(len(all))]
			}
			lines = append(lines, line)
		}
		script := scriptOf(lines)
		if len(script) > impl.MaxScript {
			isNoScript(t, script)
			continue
		}
		want := sessionOf(lines)
		runs(t, script, want)
		p := impl.FirstDesk()
		for n, line := range lines {
			behind, reply, ok := impl.DeskLine(p, line)
			if !ok || reply != want.replies[n] {
				t.Errorf("the line %d of script %d, %q, has the reply %q, not %q", n, k, line, reply, want.replies[n])
			}
			p = behind
		}
		gives(t, fmt.Sprint("DeskAfter script ", k), p)(impl.DeskAfter(script))
	}
}

// TestSmallestScripts has the script of no lines, and those of lines without words.
func TestSmallestScripts(t *testing.T) {
	x := impl.FirstDesk()
	runs(t, "", session{pair: x})
	runs(t, "\n", session{pair: x, replies: []string{"what"}, failed: []int{1}})
	runs(t, "\n\n\n", session{pair: x, replies: []string{"what", "what", "what"}, failed: []int{1, 2, 3}})
	runs(t, "\nshow\n\n", session{pair: x, replies: []string{"what", x0, "what"}, failed: []int{1, 3}})
	runs(t, " \n  \n", session{pair: x, replies: []string{"what", "what"}, failed: []int{1, 2}})
	runs(t, "show\r\nshow\n", session{pair: x, replies: []string{"what", x0}, failed: []int{1}})
	for _, text := range []string{"show", "show\nshow", "\nshow", "show\n ", "show\n\r", " ", "\r", "fly", "show\n\x00", "\n\n ", "pair .>.\nshow"} {
		isNoScript(t, text)
	}
}

// TestLimitsOfScripts has scripts of MaxLines lines and of MaxScript bytes, and greater ones.
func TestLimitsOfScripts(t *testing.T) {
	for _, line := range []string{"", "show", "length", "fly", "power 1", "invert", "short"} {
		for _, n := range []int{1, 49, 50} {
			lines := slices.Repeat([]string{line}, n)
			runs(t, scriptOf(lines), sessionOf(lines))
			isNoScript(t, scriptOf(lines)+"show")
			isNoScript(t, scriptOf(lines)+" ")
		}
		for _, n := range []int{51, 52, 100, 300} {
			isNoScript(t, strings.Repeat(line+"\n", n))
		}
	}
	wide := slices.Repeat([]string{strings.Repeat("a", 59)}, 50)
	runs(t, scriptOf(wide), sessionOf(wide))
	wide[49] += "a"
	isNoScript(t, scriptOf(wide))
	wide[49], wide[48] = "show", wide[48]+"a"
	runs(t, scriptOf(wide), sessionOf(wide))
	long := strings.Repeat(" ", impl.MaxScript-6)
	runs(t, "show\n"+long+"\n", session{pair: impl.FirstDesk(), replies: []string{x0, "what"}, failed: []int{2}})
	isNoScript(t, "show\n"+long+" \n")
	runs(t, strings.Repeat("a", 2999)+"\n", session{pair: impl.FirstDesk(), replies: []string{"what"}, failed: []int{1}})
	isNoScript(t, strings.Repeat("a", 3000)+"\n")
	isNoScript(t, strings.Repeat("a", 3000))
}

// TestLimitsOfLines has lines of MaxScript bytes, and longer ones, and lines with newlines.
func TestLimitsOfLines(t *testing.T) {
	for _, p := range []impl.Pair{impl.FirstDesk(), pair(".>."), pair("((..).)>((..).)"), {From: left(8), To: right(8)}} {
		for _, line := range []string{"", "show ", "pair ", "power ", "word x0.", "rules "} {
			for _, with := range []string{"0", " ", "(", "x", "\x00", "\xff"} {
				full := line + strings.Repeat(with, impl.MaxScript-len(line))
				got, reply, ok := impl.DeskLine(p, full)
				if !ok || got != p || reply != "what" {
					t.Errorf("DeskLine %s is %v, %q, %v", short(full), got, reply, ok)
				}
				failsLine(t, p, full+with)
				failsLine(t, p, full+"\n")
				failsLine(t, p, full[1:]+"\n")
			}
		}
		for _, line := range []string{"\n", "show\n", "\nshow", "sh\now", "show\nshow", "show\nshow\n", "power\n1", "power 1\n", "fly\n", "\n\n", "\r\n", " \n"} {
			failsLine(t, p, line)
		}
	}
}
