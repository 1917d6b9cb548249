package tests

import (
	"fmt"
	"regexp"
	"strconv"
	"strings"
	"testing"

	"loop.example/g01161/impl"
)

// What can stand behind the first word of a line: a number, a WordText and a PairText, told by patterns and by taking
// carets away, and not by the calls that read them.
var (
	numberForm = regexp.MustCompile(`^(0|[1-9][0-9]{0,5})$`)
	wordForm   = regexp.MustCompile(`^(1|x(1?[0-9]|20)'?(\.x(1?[0-9]|20)'?){0,19})$`)
)

func isNumber(text string) bool { return numberForm.MatchString(text) }

func isWordText(text string) bool { return wordForm.MatchString(text) }

func isTreeText(text string) bool {
	if strings.Count(text, "(") > impl.MaxCarets {
		return false
	}
	for strings.Contains(text, "(..)") {
		text = strings.ReplaceAll(text, "(..)", ".")
	}
	return text == "."
}

func isPairText(text string) bool {
	p := pair(text)
	return p.From+">"+p.To == text && isTreeText(p.From) && isTreeText(p.To) && strings.Count(p.From, ".") == strings.Count(p.To, ".")
}

// entry is a line of the document's table: what the second word has to be, if there is one, and the calls that it names.
type entry struct {
	fits   func(text string) bool
	effect func(p impl.Pair, text string) (impl.Pair, bool)
	reply  func(p impl.Pair, text string) (string, bool)
}

// textOfCall returns the text of a word that a call has returned.
func textOfCall(w []int, ok bool) (string, bool) {
	if !ok {
		return "", false
	}
	return impl.WordText(w)
}

// numbersOfCall returns numbers with commas between them.
func numbersOfCall(list []int, ok bool) (string, bool) {
	return strings.ReplaceAll(strings.Trim(fmt.Sprint(list), "[]"), " ", ","), ok
}

func effects() map[string]entry {
	number := func(text string) int {
		n, _ := strconv.Atoi(text)
		return n
	}
	return map[string]entry{
		"pair":   {fits: isPairText, effect: func(_ impl.Pair, text string) (impl.Pair, bool) { return pair(text), true }},
		"word":   {fits: isWordText, effect: func(_ impl.Pair, text string) (impl.Pair, bool) { return impl.PairOfWord(word(text)) }},
		"reduce": {effect: func(p impl.Pair, _ string) (impl.Pair, bool) { return impl.ReducePair(p) }},
		"invert": {effect: func(p impl.Pair, _ string) (impl.Pair, bool) { return impl.InversePair(p) }},
		"mirror": {effect: func(p impl.Pair, _ string) (impl.Pair, bool) { return impl.MirrorPair(p) }},
		"shift":  {effect: func(p impl.Pair, _ string) (impl.Pair, bool) { return impl.ShiftPair(p) }},
		"expand": {fits: isNumber, effect: func(p impl.Pair, text string) (impl.Pair, bool) { return impl.ExpandPair(p, number(text)) }},
		"power":  {fits: isNumber, effect: func(p impl.Pair, text string) (impl.Pair, bool) { return impl.PowerPair(p, number(text)) }},
		"times": {fits: isWordText, effect: func(p impl.Pair, text string) (impl.Pair, bool) {
			q, ok := impl.PairOfWord(word(text))
			if !ok {
				return impl.Pair{}, false
			}
			return impl.ProductPair(p, q)
		}},
	}
}

func replies() map[string]entry {
	return map[string]entry{
		"show":   {reply: func(p impl.Pair, _ string) (string, bool) { return impl.PairText(p) }},
		"normal": {reply: func(p impl.Pair, _ string) (string, bool) { return textOfCall(impl.WordOfPair(p)) }},
		"from":   {reply: func(p impl.Pair, _ string) (string, bool) { return numbersOfCall(impl.ExponentsOf(p.From)) }},
		"to":     {reply: func(p impl.Pair, _ string) (string, bool) { return numbersOfCall(impl.ExponentsOf(p.To)) }},
		"rules":  {fits: isWordText, reply: func(_ impl.Pair, text string) (string, bool) { return textOfCall(impl.NormalByRules(word(text))) }},
		"short":  {reply: func(p impl.Pair, _ string) (string, bool) { return textOfCall(impl.ShortestWord(p)) }},
		"graph":  {reply: func(p impl.Pair, _ string) (string, bool) { return impl.GraphText(p) }},
		"length": {reply: func(p impl.Pair, _ string) (string, bool) {
			n, ok := impl.LengthOf(p)
			return fmt.Sprint(n), ok
		}},
		"forest": {reply: func(p impl.Pair, _ string) (string, bool) {
			f, g, ok := impl.ForestsOfPair(p)
			over, _ := impl.ForestText(f)
			under, _ := impl.ForestText(g)
			return over + "/" + under, ok
		}},
	}
}

// answered returns the pair behind a line, and the reply, by the calls that the line names.
func answered(p impl.Pair, line string) (impl.Pair, string) {
	words := strings.Split(line, " ")
	e, ok := effects()[words[0]]
	if !ok {
		e, ok = replies()[words[0]]
	}
	second := ""
	switch {
	case !ok, e.fits == nil && len(words) != 1, e.fits != nil && len(words) != 2:
		return p, "what"
	case e.fits != nil:
		if second = words[1]; !e.fits(second) {
			return p, "what"
		}
	}
	if e.reply != nil {
		if reply, ok := e.reply(p, second); ok {
			return p, reply
		}
		return p, "no"
	}
	if behind, ok := e.effect(p, second); ok {
		return behind, behind.From + ">" + behind.To
	}
	return p, "no"
}

// session is what a script leaves: a second way to run one, against which the program is held.
type session struct {
	pair    impl.Pair
	replies []string
	failed  []int
}

// sessionOf runs lines.
func sessionOf(lines []string) session {
	s := session{pair: generator(0).pair()}
	for k, line := range lines {
		reply := ""
		s.pair, reply = answered(s.pair, line)
		s.replies = append(s.replies, reply)
		if reply == "no" || reply == "what" {
			s.failed = append(s.failed, k+1)
		}
	}
	return s
}

// scriptOf puts a newline behind each line.
func scriptOf(lines []string) string {
	script := ""
	for _, line := range lines {
		script += line + "\n"
	}
	return script
}

// runs holds all functions of scripts against what lines have to leave.
func runs(t *testing.T, script string, want session) {
	t.Helper()
	call := short(script)
	gives(t, "RunScript "+call, want.replies)(impl.RunScript(script))
	gives(t, "DeskAfter "+call, want.pair)(impl.DeskAfter(script))
	gives(t, "FailedLines "+call, want.failed)(impl.FailedLines(script))
}

// isNoScript checks that all functions of scripts fail.
func isNoScript(t *testing.T, text string) {
	t.Helper()
	call := short(text)
	fails[[]string](t, "RunScript "+call)(impl.RunScript(text))
	fails[impl.Pair](t, "DeskAfter "+call)(impl.DeskAfter(text))
	fails[[]int](t, "FailedLines "+call)(impl.FailedLines(text))
}

// TestConsoleModel checks the model itself.
func TestConsoleModel(t *testing.T) {
	for _, text := range []string{"0", "1", "10", "999999"} {
		if !isNumber(text) || isNumber("0"+text) || isNumber("-"+text) || isNumber(text+"0000000") {
			t.Error("number", text)
		}
	}
	for _, w := range manyWords() {
		if text := textOfWord(w); !isWordText(text) || isWordText(text+".") || isWordText("."+text) {
			t.Error("word", text)
		}
	}
	for _, p := range append(pairsUpTo(3), deepPairs()...) {
		if text := p.From + ">" + p.To; !isPairText(text) || isPairText(text+".") || isPairText(p.From+p.To) || isPairText("("+p.From+".)>"+p.To) {
			t.Error("pair", text)
		}
	}
	if isPairText(right(9)+">"+right(9)) || isPairText("") || isPairText(">") || isWordText("") || isNumber("") {
		t.Error("texts that are too long, or empty")
	}
	if p, reply := answered(pair(".>."), "expand 0"); p != pair("(..)>(..)") || reply != "(..)>(..)" {
		t.Error("expand", p, reply)
	}
}
