package tests

import (
	"math"
	"math/rand"
	"regexp"
	"slices"
	"strconv"
	"strings"
	"testing"

	"loop.example/manyvalues/impl"
)

// deedWordsByHand has the words of all kinds of deeds, in the order of their numbers.
var deedWordsByHand = []string{"chain", "say", "not", "times", "if", "basic", "back"}

// questionWords has the lines of one word that ask for something.
var questionWords = []string{"steps", "text", "always", "least", "against", "chains", "letters", "moves", "row"}

// noKinds are numbers that are no kinds of deeds, among them some that a cut would take for one.
var noKinds = []int{math.MinInt, math.MinInt + 1, math.MinInt + 3, math.MinInt32, -256, -7, -6, -2, -1, 7, 8, 9, 16, 64, 128, 255, 256, 257, 262, 1 << 32, 1<<32 + 1, 1<<32 + 6, 1 << 62, math.MaxInt32, math.MaxInt - 1, math.MaxInt}

// deedsByHand has texts of deeds, and the deeds.
var deedsByHand = []struct {
	text string
	deed impl.Deed
}{
	{"chain 0", impl.Deed{Kind: impl.DkChain}}, {"chain 1", impl.Deed{Kind: impl.DkChain, Steps: 1}}, {"chain 3", impl.Deed{Kind: impl.DkChain, Steps: 3}}, {"chain 6", impl.Deed{Kind: impl.DkChain, Steps: 6}},
	{"chain 7", impl.Deed{Kind: impl.DkChain, Steps: 7}}, {"chain 9", impl.Deed{Kind: impl.DkChain, Steps: 9}},
	{"say a", impl.Deed{Kind: impl.DkSay, Text: "a"}}, {"say 0", impl.Deed{Kind: impl.DkSay, Text: "0"}}, {"say !!1", impl.Deed{Kind: impl.DkSay, Text: "!!1"}}, {"say (a>(b&!c))", impl.Deed{Kind: impl.DkSay, Text: "(a>(b&!c))"}},
	{"times b", impl.Deed{Kind: impl.DkTimes, Text: "b"}}, {"times 1", impl.Deed{Kind: impl.DkTimes, Text: "1"}}, {"times (c*c)", impl.Deed{Kind: impl.DkTimes, Text: "(c*c)"}},
	{"if c", impl.Deed{Kind: impl.DkIf, Text: "c"}}, {"if !a", impl.Deed{Kind: impl.DkIf, Text: "!a"}}, {"if (a+b)", impl.Deed{Kind: impl.DkIf, Text: "(a+b)"}},
	{"not", impl.Deed{Kind: impl.DkNot}}, {"basic", impl.Deed{Kind: impl.DkBasic}}, {"back", impl.Deed{Kind: impl.DkBack}},
	{"say " + strings.Repeat("!", 59) + "c", impl.Deed{Kind: impl.DkSay, Text: strings.Repeat("!", 59) + "c"}},
	{"times " + strings.Repeat("!", 59) + "c", impl.Deed{Kind: impl.DkTimes, Text: strings.Repeat("!", 59) + "c"}},
	{"if " + strings.Repeat("!", 59) + "c", impl.Deed{Kind: impl.DkIf, Text: strings.Repeat("!", 59) + "c"}},
}

// noDeeds are texts of no deeds.
var noDeeds = []string{
	"", " ", "  ", "a", "0", "3", "\n", "\x00", "\xff", "say", "say ", "say  ", "times", "times ", "if", "if ", "chain", "chain ", "chain  ", "from a", "at 0 0 0", "steps", "text", "what", "ok", "none", "deed", "do not", "and a", "then a",
	"chain 10", "chain 00", "chain 01", "chain 03", "chain 003", "chain 33", "chain 99", "chain -1", "chain -0", "chain -3", "chain +3", "chain +0", "chain 3.0", "chain 3,", "chain 0x3", "chain 1e0", "chain 1_0", "chain a", "chain three", "chain (3)",
	"chain 3 ", "chain  3", " chain 3", "chain 3\n", "chain 3\x00", "chain\t3", "chain\n3", "chain3", "chain 3 3", "chain 3 4", "chain \u0663", "chain \uff13", "chain 256", "chain 4294967299", "chain 18446744073709551619", "chain 9223372036854775807", "chain -9223372036854775808",
	"Chain 3", "CHAIN 3", "chains 3", "chai 3", "hain 3", "cchain 3", "not ", " not", "not not", "not a", "not 0", "not 3", "not\n", "not\t", "not\x00", "nots", "no", "Not", "NOT", "nott", "basic ", " basic", "basic a", "basic 0", "basic 1", "basi", "basics", "Basic",
	"back ", " back", "back 1", "back 0", "back a", "bac", "backs", "Back", "back back", "say  a", " say a", "say a ", "say a\n", "say\ta", "say\na", "saya", "say a a", "say a b", "say a,b", "say (a>b) ", "say  (a>b)", "say (a> b)", "say ( a>b)", "say a>b", "say (a>b", "say d", "say 2", "say 01", "say aa", "say A", "Say a", "SAY a", "says a",
	"say \x00", "say \xff", "say a\x00", "say a\xff", "say \u00aca", "say say a", "say not", "say chain 3", "times  b", " times b", "times b ", "timesb", "times b\n", "time b", "Times b", "times (b", "times 2", "times b*c", "times not", "if  c", " if c", "if c ", "ifc", "If c", "if c\n", "iff c", "if (c", "if a>b", "if 3", "if if c", "i c",
}

// doneByHand has a chain and a formula, the text of a deed, and the chain and the formula after it; none if it cannot be done.
var doneByHand = []struct {
	steps int
	text  string
	deed  string
	after impl.Laid
}{
	{4, "a", "chain 3", impl.Laid{Steps: 3, Text: "a"}}, {4, "a", "chain 1", impl.Laid{Steps: 1, Text: "a"}}, {4, "a", "chain 6", impl.Laid{Steps: 6, Text: "a"}}, {1, "(a>b)", "chain 2", impl.Laid{Steps: 2, Text: "(a>b)"}},
	{4, "a", "chain 4", impl.Laid{}}, {1, "a", "chain 1", impl.Laid{}}, {6, "a", "chain 6", impl.Laid{}}, {4, "a", "chain 0", impl.Laid{}}, {4, "a", "chain 7", impl.Laid{}}, {4, "a", "chain 9", impl.Laid{}}, {1, "b", "chain 0", impl.Laid{}}, {6, "b", "chain 7", impl.Laid{}},
	{4, "a", "say b", impl.Laid{Steps: 4, Text: "b"}}, {4, "a", "say !a", impl.Laid{Steps: 4, Text: "!a"}}, {2, "(a>b)", "say (b>a)", impl.Laid{Steps: 2, Text: "(b>a)"}}, {2, "(a>b)", "say 0", impl.Laid{Steps: 2, Text: "0"}},
	{4, "a", "say a", impl.Laid{}}, {3, "(a>b)", "say (a>b)", impl.Laid{}}, {3, "0", "say 0", impl.Laid{}},
	{4, "a", "not", impl.Laid{Steps: 4, Text: "!a"}}, {4, "!a", "not", impl.Laid{Steps: 4, Text: "!!a"}}, {1, "(a+b)", "not", impl.Laid{Steps: 1, Text: "!(a+b)"}}, {1, "0", "not", impl.Laid{Steps: 1, Text: "!0"}},
	{4, "a", "times b", impl.Laid{Steps: 4, Text: "(a*b)"}}, {4, "a", "times a", impl.Laid{Steps: 4, Text: "(a*a)"}}, {5, "!a", "times (b|c)", impl.Laid{Steps: 5, Text: "(!a*(b|c))"}}, {5, "(a*b)", "times c", impl.Laid{Steps: 5, Text: "((a*b)*c)"}},
	{4, "a", "if b", impl.Laid{Steps: 4, Text: "(b>a)"}}, {4, "a", "if a", impl.Laid{Steps: 4, Text: "(a>a)"}}, {5, "!a", "if (b|c)", impl.Laid{Steps: 5, Text: "((b|c)>!a)"}}, {5, "(a>b)", "if c", impl.Laid{Steps: 5, Text: "(c>(a>b))"}},
	{4, "1", "basic", impl.Laid{Steps: 4, Text: "(0>0)"}}, {4, "!a", "basic", impl.Laid{Steps: 4, Text: "(a>0)"}}, {3, "(a+b)", "basic", impl.Laid{Steps: 3, Text: "((a>0)>b)"}}, {3, "(a*b)", "basic", impl.Laid{Steps: 3, Text: "((a>(b>0))>0)"}},
	{2, "(a&b)", "basic", impl.Laid{Steps: 2, Text: "((a>((a>b)>0))>0)"}}, {2, "(a|b)", "basic", impl.Laid{Steps: 2, Text: "((a>b)>b)"}}, {2, "!(a|!b)", "basic", impl.Laid{Steps: 2, Text: "(((a>(b>0))>(b>0))>0)"}},
	{4, "a", "basic", impl.Laid{}}, {4, "0", "basic", impl.Laid{}}, {4, "(a>b)", "basic", impl.Laid{}}, {4, "((a>0)>(b>0))", "basic", impl.Laid{}},
	{4, "a", "back", impl.Laid{}}, {1, "(a>b)", "back", impl.Laid{}},
}

// answersOfDesks has a chain and a formula, and lines with their answers, which are no deeds.
var answersOfDesks = []struct {
	steps   int
	text    string
	answers map[string]string
}{
	{4, "a", map[string]string{
		"steps": "4", "text": "a", "always": "no", "least": "0", "against": "0,0,0", "chains": "none", "letters": "1", "moves": "1", "row": "0,1,2,3,4",
		"at 0 0 0": "0", "at 1 2 3": "1/4", "at 2 0 0": "1/2", "at 3 4 4": "3/4", "at 4 0 0": "1", "at 5 0 0": "none", "at 0 5 0": "none", "at 0 0 5": "none", "at 10 0 0": "none", "at 0 99 0": "none", "at 0 0 12": "none",
		"from a": "yes", "from b": "no", "from 0": "yes", "from 1": "no", "from (a*b)": "yes", "from (a|b)": "no", "from !!a": "yes", "from !a": "no",
	}},
	{1, "0", map[string]string{
		"steps": "1", "text": "0", "always": "no", "least": "0", "against": "0,0,0", "chains": "none", "letters": "0", "moves": "0", "row": "0,0",
		"at 0 0 0": "0", "at 1 1 1": "0", "at 2 0 0": "none", "from 0": "yes", "from a": "no", "from (a&!a)": "yes", "from 1": "no",
	}},
	{6, "1", map[string]string{
		"steps": "6", "text": "1", "always": "yes", "least": "1", "against": "none", "chains": "1,2,3,4,5,6", "letters": "0", "moves": "0", "row": "6,6,6,6,6,6,6",
		"at 0 0 0": "1", "at 6 6 6": "1", "at 6 6 7": "none", "from 0": "yes", "from a": "yes", "from 1": "yes",
	}},
	{1, "(a|!a)", map[string]string{
		"steps": "1", "text": "(a|!a)", "always": "yes", "least": "1", "against": "none", "chains": "1", "letters": "2", "moves": "0", "row": "1,1",
		"at 0 0 0": "1", "at 1 0 0": "1", "from (a>b)": "yes",
	}},
	{4, "(a|!a)", map[string]string{
		"steps": "4", "text": "(a|!a)", "always": "no", "least": "1/2", "against": "1,0,0", "chains": "1", "letters": "2", "moves": "1", "row": "4,3,2,3,4",
		"at 1 0 0": "3/4", "at 2 4 4": "1/2", "at 0 1 1": "1", "from a": "yes", "from !a": "yes", "from (a>(a*a))": "yes", "from b": "no",
	}},
	{2, "((a*a)>((a*a)*a))", map[string]string{
		"steps": "2", "text": "((a*a)>((a*a)*a))", "always": "yes", "least": "1", "against": "none", "chains": "1,2", "letters": "5", "moves": "0", "row": "2,2,2", "at 1 0 0": "1", "from b": "yes",
	}},
	{3, "((a*a)>((a*a)*a))", map[string]string{
		"steps": "3", "text": "((a*a)>((a*a)*a))", "always": "no", "least": "2/3", "against": "2,0,0", "chains": "1,2", "letters": "5", "moves": "1", "row": "3,3,2,3", "at 2 0 0": "2/3", "at 3 0 0": "1", "from (a|!a)": "yes", "from b": "no",
	}},
	{5, "!(a+(b*!c))", map[string]string{
		"steps": "5", "text": "!(a+(b*!c))", "always": "no", "least": "0", "against": "0,1,0", "chains": "none", "letters": "3", "moves": "1", "row": "5,4,3,2,1,0",
		"at 2 4 1": "0", "at 1 2 2": "4/5", "at 0 0 0": "1", "at 0 5 4": "4/5", "at 5 5 6": "none", "from !a": "no", "from (!a&!b)": "yes", "from (!a&c)": "yes",
	}},
	{6, "((a+a)>b)", map[string]string{
		"steps": "6", "text": "((a+a)>b)", "always": "no", "least": "0", "against": "1,0,0", "chains": "none", "letters": "3", "moves": "2", "row": "6,5,4,3,4,5,6",
		"at 1 1 0": "5/6", "at 2 1 6": "1/2", "at 1 0 0": "2/3", "at 2 2 0": "2/3", "at 3 2 0": "1/3", "at 3 1 0": "1/6", "at 3 0 0": "0", "at 6 6 6": "1", "from b": "yes", "from (a>b)": "no", "from !a": "yes",
	}},
}

// noLines are lines that are no deeds and ask for nothing.
var noLines = []string{
	"", " ", "  ", "\n", "\t", "\x00", "\xff", "a", "0", "yes", "what", "ok", "what ", "?", "step", "stepss", "steps ", " steps", "Steps", "STEPS", "steps\n", "steps 1", "steps  ", "text ", " text", "texts", "text a", "Text", "always ", "alway", "always a", "least ", "lest", "least 0", "against ", "agains", "against a",
	"chains ", "chains 1", "chain", "letters ", "letter", "letters a", "moves ", "move", "moves 1", "row ", "rows", "row 1", "row\x00", "row\n", "ro", "at", "at ", "at  ", "at 1", "at 1 ", "at 1 2", "at 1 2 ", "at 1 2 3 ", "at 1 2 3 4", "at  1 2 3", "at 1  2 3", "at 1 2  3", " at 1 2 3", "at 1 2 3\n", "at\t1 2 3", "at 1\t2 3", "at1 2 3", "at 1,2,3", "at 1 2,3", "At 1 2 3", "AT 1 2 3",
	"at 1 2 x", "at x 2 3", "at 1 x 3", "at a b c", "at 00 0 0", "at 0 00 0", "at 0 0 00", "at 01 0 0", "at 0 01 0", "at 0 0 01", "at 0 0 09", "at -1 0 0", "at 0 -1 0", "at 0 0 -1", "at -0 0 0", "at 0 0 -0", "at +1 0 0", "at 0 +1 0", "at 0 0 +1", "at 1. 0 0", "at 0 0 1.", "at .1 0 0", "at 1_ 0 0", "at 0x 0 0", "at 1e 0 0", "at 100 0 0", "at 0 100 0", "at 0 0 100", "at 001 0 0", "at 0 0 001", "at 256 0 0", "at 4294967296 0 0",
	"at 18446744073709551616 0 0", "at 0 9223372036854775807 0", "at 0 0 9223372036854775808", "at 0 0 -9223372036854775808", "at 1/2 0 0", "at 0 0 1/2", "at \u0661 0 0", "at 0 0 \uff11", "at 0 0 \x00", "at 0 0 0\x00", "at 0 0 \xff", "at 0\n0 0", "at none 0 0", "at 0 0 0 from a",
	"from", "from ", "from  ", "from  a", " from a", "from a ", "from a\n", "from\ta", "froma", "from a b", "from a,b", "from d", "from 2", "from 00", "from a>b", "from (a>b", "from (a> b)", "from (a>b) ", "from A", "From a", "FROM a", "from from a", "from \x00", "from \xff", "from a\x00", "from not", "fro a", "form a",
}

// deskOf returns a desk of a chain and a formula, and those of before, in new memory.
func deskOf(now impl.Laid, past ...impl.Laid) impl.Desk {
	return impl.Desk{Now: now, Past: slices.Clone(past)}
}

// sameDesk tells whether two desks are the same.
func sameDesk(x, y impl.Desk) bool {
	return x.Now == y.Now && slices.Equal(x.Past, y.Past)
}

// shownDesk returns a desk for a message, which is short.
func shownDesk(d impl.Desk) string {
	text := strconv.Itoa(d.Now.Steps) + " " + shown(d.Now.Text) + " after " + strconv.Itoa(len(d.Past))
	for _, x := range d.Past[:min(len(d.Past), 9)] {
		text += ", " + strconv.Itoa(x.Steps) + " " + shown(x.Text)
	}
	return text
}

// shownDeed returns a deed for a message, which is short.
func shownDeed(a impl.Deed) string {
	return strconv.Itoa(a.Kind) + " " + strconv.Itoa(a.Steps) + " " + strconv.Quote(shown(a.Text))
}

// pastOf returns so many pairs of before, which are all different.
func pastOf(length int) []impl.Laid {
	var past []impl.Laid
	for i := range length {
		past = append(past, impl.Laid{Steps: 1 + i%6, Text: strings.Repeat("!", i/6) + "c"})
	}
	return past
}

// deskRoom returns a desk whose list of before has room behind its end, which no function may write to.
func deskRoom(d impl.Desk) impl.Desk {
	whole := append(slices.Clone(d.Past), slices.Repeat([]impl.Laid{{Steps: 2, Text: "behind"}, {}, {Steps: 3, Text: "b"}}, 4)...)
	return impl.Desk{Now: d.Now, Past: whole[:len(d.Past):len(whole)]}
}

// spoilDesk writes to all that a desk had before, and to the memory behind it.
func spoilDesk(d impl.Desk) {
	whole := d.Past[:cap(d.Past)]
	for i := range whole {
		whole[i] = impl.Laid{Steps: -7, Text: "spoilt"}
	}
}

// doneInWords returns a desk after a deed, as the document says it.
func doneInWords(d impl.Desk, a impl.Deed) (impl.Desk, bool) {
	now, past := d.Now, slices.Clone(d.Past)
	named := a.Kind == impl.DkSay || a.Kind == impl.DkTimes || a.Kind == impl.DkIf
	if a.Kind < 0 || a.Kind > 6 || a.Steps != 0 && a.Kind != impl.DkChain || a.Text != "" && !named {
		return impl.Desk{Now: now, Past: past}, false
	}
	switch a.Kind {
	case impl.DkBack:
		if len(past) == 0 {
			return impl.Desk{Now: now, Past: past}, false
		}
		return impl.Desk{Now: past[len(past)-1], Past: past[:len(past)-1]}, true
	case impl.DkChain:
		now.Steps = a.Steps
	case impl.DkSay:
		now.Text = a.Text
	case impl.DkNot:
		now.Text = "!" + now.Text
	case impl.DkTimes:
		now.Text = "(" + now.Text + "*" + a.Text + ")"
	case impl.DkIf:
		now.Text = "(" + a.Text + ">" + now.Text + ")"
	case impl.DkBasic:
		now.Text, _ = impl.BasicOf(now.Text)
	}
	if now == d.Now || now.Steps < 1 || now.Steps > 6 || !shrinksToFormula(now.Text) {
		return impl.Desk{Now: d.Now, Past: past}, false
	}
	past = append(past, d.Now)
	if len(past) > 8 {
		past = past[1:]
	}
	return impl.Desk{Now: now, Past: past}, true
}

// textInWords returns the text of a deed, as the document says it; "" for others.
func textInWords(a impl.Deed) string {
	switch {
	case a.Kind == impl.DkChain && a.Text == "" && a.Steps >= 0 && a.Steps <= 9:
		return "chain " + "0123456789"[a.Steps:a.Steps+1]
	case a.Kind == impl.DkSay && a.Steps == 0 && shrinksToFormula(a.Text):
		return "say " + a.Text
	case a.Kind == impl.DkTimes && a.Steps == 0 && shrinksToFormula(a.Text):
		return "times " + a.Text
	case a.Kind == impl.DkIf && a.Steps == 0 && shrinksToFormula(a.Text):
		return "if " + a.Text
	case a == impl.Deed{Kind: impl.DkNot}:
		return "not"
	case a == impl.Deed{Kind: impl.DkBasic}:
		return "basic"
	case a == impl.Deed{Kind: impl.DkBack}:
		return "back"
	}
	return ""
}

var (
	chainLine = regexp.MustCompile(`\Achain [0-9]\z`)
	namedLine = regexp.MustCompile(`(?s)\A(say|times|if) (.*)\z`)
	plainLine = regexp.MustCompile(`\A(not|basic|back)\z`)
	atLine    = regexp.MustCompile(`\Aat (0|[1-9][0-9]?) (0|[1-9][0-9]?) (0|[1-9][0-9]?)\z`)
	fromLine  = regexp.MustCompile(`(?s)\Afrom (.*)\z`)
)

// readInWords returns the deed that a text is, by its shape.
func readInWords(s string) (impl.Deed, bool) {
	if len(s) > 100 {
		return impl.Deed{}, false
	}
	if chainLine.MatchString(s) {
		return impl.Deed{Kind: impl.DkChain, Steps: int(s[6] - '0')}, true
	}
	if plainLine.MatchString(s) {
		return impl.Deed{Kind: slices.Index(deedWordsByHand, s)}, true
	}
	if parts := namedLine.FindStringSubmatch(s); parts != nil && shrinksToFormula(parts[2]) {
		return impl.Deed{Kind: slices.Index(deedWordsByHand, parts[1]), Text: parts[2]}, true
	}
	return impl.Deed{}, false
}

// withCommas returns the text of numbers, with commas between them, or none.
func withCommas(numbers []int) string {
	if len(numbers) == 0 {
		return "none"
	}
	text := ""
	for _, number := range numbers {
		text += "," + strconv.Itoa(number)
	}
	return text[1:]
}

// yesInWords returns the text of a truth.
func yesInWords(ok bool) string {
	return map[bool]string{false: "no", true: "yes"}[ok]
}

// answerInWords returns the answer to a line that is no deed, as the document says it.
func answerInWords(x impl.Laid, line string) string {
	if parts := atLine.FindStringSubmatch(line); parts != nil {
		a, _ := strconv.Atoi(parts[1])
		b, _ := strconv.Atoi(parts[2])
		c, _ := strconv.Atoi(parts[3])
		if max(a, b, c) > x.Steps {
			return "none"
		}
		return impl.ValueText(x.Steps, impl.ValueAt(x.Steps, x.Text, a, b, c))
	}
	if parts := fromLine.FindStringSubmatch(line); parts != nil && shrinksToFormula(parts[1]) {
		return yesInWords(impl.FollowsFrom(x.Steps, []string{parts[1]}, x.Text))
	}
	switch line {
	case "steps":
		return strconv.Itoa(x.Steps)
	case "text":
		return x.Text
	case "always":
		return yesInWords(impl.AlwaysOk(x.Steps, x.Text))
	case "least":
		return impl.ValueText(x.Steps, impl.LeastAt(x.Steps, x.Text))
	case "against":
		if a, b, c, ok := impl.AgainstOf(x.Steps, x.Text); ok {
			return withCommas([]int{a, b, c})
		}
		return "none"
	case "chains":
		return withCommas(impl.ChainsFor(x.Text))
	case "letters":
		return strconv.Itoa(impl.LettersIn(x.Text))
	case "moves":
		return strconv.Itoa(impl.MovesOf(x.Steps, x.Text))
	case "row":
		return withCommas(impl.RowSaid(x.Steps, x.Text))
	}
	return "what"
}

// lineInWords returns a desk after a line, and the answer, as the document says it.
func lineInWords(d impl.Desk, line string) (impl.Desk, string) {
	a, ok := readInWords(line)
	if !ok {
		return d, answerInWords(d.Now, line)
	}
	after, done := doneInWords(d, a)
	if !done {
		return after, "not"
	}
	return after, "ok"
}

// someDeeds returns deeds with a text, always the same ones; most of them can often be done.
func someDeeds() []impl.Deed {
	var list []impl.Deed
	for steps := range 10 {
		list = append(list, impl.Deed{Kind: impl.DkChain, Steps: steps})
	}
	texts := slices.Concat(formulasByHand, textsOf(builtOfAllLengths(builtAtoms, 1)))
	for i, s := range texts {
		list = append(list, impl.Deed{Kind: impl.DkSay, Text: s}, impl.Deed{Kind: impl.DkNot}, impl.Deed{Kind: impl.DkTimes, Text: s}, impl.Deed{Kind: impl.DkIf, Text: s}, impl.Deed{Kind: impl.DkBasic}, impl.Deed{Kind: impl.DkBack}, impl.Deed{Kind: impl.DkChain, Steps: 1 + i%6})
	}
	return list
}

// eachNoDeed calls a function for deeds that are none: of other kinds, or with steps or a formula where none are named, or without.
func eachNoDeed(check func(a impl.Deed)) {
	for _, kind := range noKinds {
		for _, s := range []string{"", "a", "b", "(a>b)", "d"} {
			for _, steps := range []int{0, 1, 3, 5, -1, 9, kind} {
				check(impl.Deed{Kind: kind, Steps: steps, Text: s})
			}
		}
	}
	for kind := range deedWordsByHand {
		named := kind == impl.DkSay || kind == impl.DkTimes || kind == impl.DkIf
		if kind != impl.DkChain {
			for _, steps := range []int{math.MinInt, math.MinInt + 1, -256, -3, -1, 1, 2, 3, 6, 7, 9, 256, 1 << 32, 1 << 62, math.MaxInt - 1, math.MaxInt} {
				for _, s := range []string{"", "a", "b", "(a>b)"} {
					check(impl.Deed{Kind: kind, Steps: steps, Text: s})
				}
			}
		}
		if !named {
			for _, s := range append([]string{"a", "b", "0", "(a>b)", "!(a+b)", " ", "\x00"}, noFormulas[1:]...) {
				for _, steps := range []int{0, 1, 3, 5} {
					check(impl.Deed{Kind: kind, Steps: steps, Text: s})
				}
			}
			continue
		}
		eachNoFormula(func(s string) { check(impl.Deed{Kind: kind, Text: s}) })
	}
	for _, steps := range badSteps {
		if steps < 0 || steps > 9 {
			check(impl.Deed{Kind: impl.DkChain, Steps: steps})
		}
	}
	for _, steps := range []int{10, 11, 13, 100, 103, 256 + 3, 1<<32 + 3, 1 << 62, math.MinInt + 3} {
		check(impl.Deed{Kind: impl.DkChain, Steps: steps})
	}
}

// someDesks returns desks, always the same ones: of all chains, and of none up to eight of before.
func someDesks() []impl.Desk {
	source := rand.New(rand.NewSource(12))
	deeds := someDeeds()
	var list []impl.Desk
	for _, steps := range allChains {
		d := deskOf(impl.Laid{Steps: steps, Text: "a"})
		for len(list) < 40*steps {
			list = append(list, d)
			d, _ = doneInWords(d, deeds[source.Intn(len(deeds))])
		}
	}
	for length := range 9 {
		list = append(list, deskOf(impl.Laid{Steps: 2, Text: "(a>b)"}, pastOf(length)...))
		list = append(list, deskOf(impl.Laid{Steps: 1, Text: "c"}, slices.Repeat([]impl.Laid{{Steps: 1, Text: "c"}}, length)...))
		list = append(list, deskOf(impl.Laid{Steps: 6, Text: ofBytes(60)}, slices.Repeat([]impl.Laid{{Steps: 6, Text: ofBytes(60)}}, length)...))
	}
	return list
}

// eachNoDesk calls a function for desks that are none: by what lies there, by what lay there before, or by too much of that.
func eachNoDesk(check func(d impl.Desk)) {
	check(impl.Desk{})
	good := impl.Laid{Steps: 3, Text: "(a>b)"}
	var bad []impl.Laid
	for _, steps := range badSteps {
		bad = append(bad, impl.Laid{Steps: steps, Text: "a"}, impl.Laid{Steps: steps, Text: ""})
	}
	for _, s := range append([]string{"", "a>", "d", strings.Repeat("!", 60) + "a"}, noFormulas...) {
		bad = append(bad, impl.Laid{Steps: 3, Text: s}, impl.Laid{Steps: 0, Text: s})
	}
	for _, x := range bad {
		for _, length := range []int{0, 1, 7, 8, 9} {
			check(deskOf(x, pastOf(length)...))
		}
		for length := 1; length <= 8; length++ {
			for place := range length {
				past := pastOf(length)
				past[place] = x
				check(deskOf(good, past...))
			}
		}
	}
	for _, length := range []int{9, 10, 16, 17, 64, 255, 256, 257, 264, 65536, 65536 + 8, 1 << 17} {
		check(deskOf(good, slices.Repeat([]impl.Laid{good}, length)...))
		check(deskOf(good, slices.Repeat([]impl.Laid{{}}, length)...))
	}
	check(deskOf(good, pastOf(9)...))
}

// fewNoDesks returns some desks that are none, of each sort.
func fewNoDesks() []impl.Desk {
	good := impl.Laid{Steps: 2, Text: "b"}
	list := []impl.Desk{{}, deskOf(impl.Laid{Steps: 0, Text: "a"}), deskOf(impl.Laid{Steps: 7, Text: "a"}), deskOf(impl.Laid{Steps: math.MinInt, Text: "a"}), deskOf(impl.Laid{Steps: math.MaxInt, Text: "a"}), deskOf(impl.Laid{Steps: 3}), deskOf(impl.Laid{Steps: 3, Text: "a>"}), deskOf(impl.Laid{Steps: 3, Text: ofBytes(61)})}
	for _, x := range []impl.Laid{{}, {Steps: 0, Text: "a"}, {Steps: 7, Text: "a"}, {Steps: math.MinInt, Text: "a"}, {Steps: 3}, {Steps: 3, Text: "a>"}} {
		list = append(list, deskOf(good, x), deskOf(good, x, good), deskOf(good, good, x), deskOf(good, append(pastOf(7), x)...), deskOf(x, pastOf(2)...))
	}
	return append(list, deskOf(good, pastOf(9)...), deskOf(good, pastOf(10)...), deskOf(good, pastOf(40)...))
}

// checkLaid checks LaidOk.
func checkLaid(t *testing.T, x impl.Laid, want bool) {
	t.Helper()
	if got := impl.LaidOk(x); got != want {
		t.Errorf("LaidOk(%d, %q) is %v", x.Steps, shown(x.Text), got)
	}
}

// checkDesk checks DeskOk.
func checkDesk(t *testing.T, d impl.Desk, want bool) {
	t.Helper()
	if got := impl.DeskOk(d); got != want {
		t.Errorf("DeskOk(%s) is %v", shownDesk(d), got)
	}
}

// checkDone checks DeskDo.
func checkDone(t *testing.T, d impl.Desk, a impl.Deed, want impl.Desk, wantDone bool) {
	t.Helper()
	if got, done := impl.DeskDo(d, a); !sameDesk(got, want) || done != wantDone {
		t.Errorf("DeskDo(%s; %s) is %s, %v, not %s, %v", shownDesk(d), shownDeed(a), shownDesk(got), done, shownDesk(want), wantDone)
	}
}

// checkRun checks DeskRun.
func checkRun(t *testing.T, d impl.Desk, list []impl.Deed, want impl.Desk, wantDone int) {
	t.Helper()
	if got, done := impl.DeskRun(d, list); !sameDesk(got, want) || done != wantDone {
		t.Errorf("DeskRun(%s; %d deeds) is %s, %d, not %s, %d", shownDesk(d), len(list), shownDesk(got), done, shownDesk(want), wantDone)
	}
}

// checkDeedText checks DeedText.
func checkDeedText(t *testing.T, a impl.Deed, want string) {
	t.Helper()
	if got := impl.DeedText(a); got != want {
		t.Errorf("DeedText(%s) is %q, not %q", shownDeed(a), shown(got), shown(want))
	}
}

// checkRead checks ReadDeed, and that a text that is refused gives nothing.
func checkRead(t *testing.T, s string, want impl.Deed, wantOk bool) {
	t.Helper()
	if got, ok := impl.ReadDeed(s); got != want || ok != wantOk {
		t.Errorf("ReadDeed(%q) (%d bytes) is %s, %v, not %s, %v", shown(s), len(s), shownDeed(got), ok, shownDeed(want), wantOk)
	}
}

// checkJournalText checks JournalText.
func checkJournalText(t *testing.T, list []impl.Deed, want string) {
	t.Helper()
	if got := impl.JournalText(list); got != want {
		t.Errorf("JournalText of %d deeds is %q, not %q", len(list), shown(got), shown(want))
	}
}

// checkJournal checks ReadJournal.
func checkJournal(t *testing.T, s string, want []impl.Deed, bytes int) {
	t.Helper()
	if got, n := impl.ReadJournal(s); !slices.Equal(got, want) || n != bytes {
		t.Errorf("ReadJournal(%q) (%d bytes) is %v (%d deeds), %d, not %d deeds, %d", shown(s), len(s), got[:min(len(got), 5)], len(got), n, len(want), bytes)
	}
}

// checkLine checks DeskLine.
func checkLine(t *testing.T, d impl.Desk, line string, want impl.Desk, wantAnswer string) {
	t.Helper()
	if got, answer := impl.DeskLine(d, line); !sameDesk(got, want) || answer != wantAnswer {
		t.Errorf("DeskLine(%s; %q) is %s, %q, not %s, %q", shownDesk(d), shown(line), shownDesk(got), shown(answer), shownDesk(want), shown(wantAnswer))
	}
}

// checkSaying checks DeskSay.
func checkSaying(t *testing.T, d impl.Desk, lines []string, want impl.Desk, wantAnswers []string) {
	t.Helper()
	if got, answers := impl.DeskSay(d, lines); !sameDesk(got, want) || !slices.Equal(answers, wantAnswers) {
		t.Errorf("DeskSay(%s; %v) is %s, %v, not %s, %v", shownDesk(d), shownList(lines), shownDesk(got), answers, shownDesk(want), wantAnswers)
	}
}

// newDesk returns a new desk.
func newDesk(t *testing.T, steps int) impl.Desk {
	t.Helper()
	d, ok := impl.DeskNew(steps)
	if !ok {
		t.Fatalf("DeskNew(%d) tells false", steps)
	}
	return d
}

func TestDeskNumbers(t *testing.T) {
	kinds := []int{impl.DkChain, impl.DkSay, impl.DkNot, impl.DkTimes, impl.DkIf, impl.DkBasic, impl.DkBack}
	if !slices.Equal(kinds, []int{0, 1, 2, 3, 4, 5, 6}) || impl.MaxPast != 8 || impl.MaxLines != 40 {
		t.Errorf("the kinds are %v, MaxPast is %d, and MaxLines is %d", kinds, impl.MaxPast, impl.MaxLines)
	}
}

// P66: A letter may be laid.
func TestP66ALetter(t *testing.T) {
	checkLaid(t, impl.Laid{Steps: 1, Text: "a"}, true)
	for steps := -3; steps <= 10; steps++ {
		for _, x := range builtSmall() {
			checkLaid(t, impl.Laid{Steps: steps, Text: x.text}, steps >= 1 && steps <= 6)
		}
	}
}

func TestP66AllLengths(t *testing.T) {
	for _, steps := range allChains {
		for bytes := 1; bytes <= 64; bytes++ {
			checkLaid(t, impl.Laid{Steps: steps, Text: ofBytes(bytes)}, bytes <= 60)
		}
	}
}

func TestP66OthersAreNotLaid(t *testing.T) {
	eachBadChain(func(steps int, s string) { checkLaid(t, impl.Laid{Steps: steps, Text: s}, false) })
	checkLaid(t, impl.Laid{}, false)
	checkLaid(t, impl.Laid{Steps: 1}, false)
	checkLaid(t, impl.Laid{Text: "a"}, false)
}

// P67: Desks can forget.
func TestP67WithoutAnythingOfBefore(t *testing.T) {
	for _, steps := range allChains {
		for _, s := range formulasByHand {
			for _, past := range [][]impl.Laid{nil, {}} {
				checkDesk(t, impl.Desk{Now: impl.Laid{Steps: steps, Text: s}, Past: past}, true)
			}
		}
	}
	for _, d := range someDesks() {
		checkDesk(t, d, true)
		checkDesk(t, impl.Desk{Now: d.Now}, true)
	}
}

func TestP67AtMostMaxPast(t *testing.T) {
	for length := range 20 {
		for _, x := range []impl.Laid{{Steps: 1, Text: "a"}, {Steps: 6, Text: ofBytes(60)}} {
			checkDesk(t, deskOf(x, slices.Repeat([]impl.Laid{x}, length)...), length <= 8)
			checkDesk(t, deskRoom(deskOf(x, pastOf(length)...)), length <= 8)
		}
	}
}

func TestP67OthersAreNoDesks(t *testing.T) {
	eachNoDesk(func(d impl.Desk) { checkDesk(t, d, false) })
	for _, d := range fewNoDesks() {
		checkDesk(t, d, false)
	}
}

// P68: New desks have one letter.
func TestP68NewDesks(t *testing.T) {
	for _, steps := range allChains {
		d, ok := impl.DeskNew(steps)
		if !ok || !sameDesk(d, deskOf(impl.Laid{Steps: steps, Text: "a"})) || !impl.DeskOk(d) {
			t.Errorf("DeskNew(%d) is %s, %v", steps, shownDesk(d), ok)
		}
	}
}

func TestP68OtherChainsHaveNone(t *testing.T) {
	for _, steps := range badSteps {
		if d, ok := impl.DeskNew(steps); ok || !sameDesk(d, impl.Desk{}) {
			t.Errorf("DeskNew(%d) is %s, %v", steps, shownDesk(d), ok)
		}
	}
}

// P57: What was done can be undone.
func TestP57DoneByHand(t *testing.T) {
	for _, x := range doneByHand {
		a, ok := impl.ReadDeed(x.deed)
		if !ok {
			t.Errorf("ReadDeed(%q) tells false", x.deed)
		}
		now := impl.Laid{Steps: x.steps, Text: x.text}
		if x.after.Text == "" {
			checkDone(t, deskOf(now), a, deskOf(now), false)
			continue
		}
		checkDone(t, deskOf(now), a, deskOf(x.after, now), true)
		past := pastOf(3)
		checkDone(t, deskOf(now, past...), a, deskOf(x.after, append(past, now)...), true)
	}
}

func TestP57DoneInWords(t *testing.T) {
	deeds := someDeeds()
	for i, d := range someDesks() {
		for k, a := range deeds {
			if k < 20 || (i+k)%5 == 0 {
				want, done := doneInWords(d, a)
				checkDone(t, d, a, want, done)
			}
		}
	}
}

func TestP57BackIsTheSameDesk(t *testing.T) {
	for _, d := range someDesks() {
		for _, a := range someDeeds()[:100] {
			after, done := impl.DeskDo(d, a)
			if !impl.DeskOk(after) {
				t.Errorf("DeskDo(%s; %s) is no desk: %s", shownDesk(d), shownDeed(a), shownDesk(after))
			}
			if !done && !sameDesk(after, d) {
				t.Errorf("DeskDo(%s; %s) tells false, but is %s", shownDesk(d), shownDeed(a), shownDesk(after))
			}
			if done && a.Kind != impl.DkBack && len(d.Past) < impl.MaxPast {
				checkDone(t, after, impl.Deed{Kind: impl.DkBack}, d, true)
			}
		}
	}
}

func TestP57TheFirstIsGone(t *testing.T) {
	for length := range 9 {
		past, now := pastOf(length), impl.Laid{Steps: 2, Text: "(a>b)"}
		d := deskOf(now, past...)
		for _, a := range []impl.Deed{{Kind: impl.DkChain, Steps: 5}, {Kind: impl.DkSay, Text: "b"}, {Kind: impl.DkNot}, {Kind: impl.DkTimes, Text: "c"}, {Kind: impl.DkIf, Text: "c"}} {
			after, done := impl.DeskDo(d, a)
			want := append(slices.Clone(past), now)
			want = want[max(0, len(want)-8):]
			if !done || !slices.Equal(after.Past, want) {
				t.Errorf("DeskDo(%s; %s) is %s, %v", shownDesk(d), shownDeed(a), shownDesk(after), done)
			}
			checkDone(t, after, impl.Deed{Kind: impl.DkBack}, deskOf(now, want[:len(want)-1]...), true)
		}
	}
}

func TestP57AllTheWayBack(t *testing.T) {
	past := pastOf(8)
	d := deskOf(impl.Laid{Steps: 4, Text: "(a+b)"}, past...)
	for length := 7; length >= 0; length-- {
		after, done := impl.DeskDo(d, impl.Deed{Kind: impl.DkBack})
		if !done || !sameDesk(after, deskOf(past[length], past[:length]...)) {
			t.Errorf("behind %s is %s, %v", shownDesk(d), shownDesk(after), done)
		}
		d = after
	}
	checkDone(t, d, impl.Deed{Kind: impl.DkBack}, d, false)
}

func TestP57BackToTheSame(t *testing.T) {
	x := impl.Laid{Steps: 3, Text: "b"}
	checkDone(t, deskOf(x, x), impl.Deed{Kind: impl.DkBack}, deskOf(x), true)
	checkDone(t, deskOf(x, pastOf(1)[0], x), impl.Deed{Kind: impl.DkBack}, deskOf(x, pastOf(1)...), true)
	checkDone(t, deskOf(x, slices.Repeat([]impl.Laid{x}, 8)...), impl.Deed{Kind: impl.DkBack}, deskOf(x, slices.Repeat([]impl.Laid{x}, 7)...), true)
}

func TestP57NothingStaysTheSame(t *testing.T) {
	for _, d := range someDesks() {
		checkDone(t, d, impl.Deed{Kind: impl.DkChain, Steps: d.Now.Steps}, d, false)
		checkDone(t, d, impl.Deed{Kind: impl.DkSay, Text: d.Now.Text}, d, false)
		if basic, ok := impl.BasicOf(d.Now.Text); ok {
			said, _ := impl.DeskDo(d, impl.Deed{Kind: impl.DkSay, Text: basic})
			checkDone(t, said, impl.Deed{Kind: impl.DkBasic}, said, false)
		}
	}
}

func TestP57BasicIsTheSame(t *testing.T) {
	for _, x := range builtMany() {
		for _, steps := range []int{1, 3, 6} {
			d := deskOf(impl.Laid{Steps: steps, Text: x.text}, pastOf(2)...)
			if len(x.basic) > 60 || x.basic == x.text {
				checkDone(t, d, impl.Deed{Kind: impl.DkBasic}, d, false)
				continue
			}
			checkDone(t, d, impl.Deed{Kind: impl.DkBasic}, deskOf(impl.Laid{Steps: steps, Text: x.basic}, append(pastOf(2), d.Now)...), true)
			checkSame(t, steps, x.text, x.basic, true)
		}
	}
}

func TestP57TooLong(t *testing.T) {
	for bytes := 1; bytes <= 60; bytes++ {
		now := impl.Laid{Steps: 4, Text: ofBytes(bytes)}
		d := deskOf(now, pastOf(bytes%9)...)
		for more := 1; more <= 61; more++ {
			for kind, text := range map[int]string{impl.DkTimes: "(" + now.Text + "*" + ofBytes(more) + ")", impl.DkIf: "(" + ofBytes(more) + ">" + now.Text + ")"} {
				a := impl.Deed{Kind: kind, Text: ofBytes(more)}
				after, done := impl.DeskDo(d, a)
				if done != (bytes+more+3 <= 60) || done && after.Now.Text != text || !done && !sameDesk(after, d) {
					t.Errorf("DeskDo(%s; %s) is %s, %v", shownDesk(d), shownDeed(a), shownDesk(after), done)
				}
			}
		}
		after, done := impl.DeskDo(d, impl.Deed{Kind: impl.DkNot})
		if done != (bytes < 60) || done && after.Now.Text != ofBytes(bytes+1) || !done && !sameDesk(after, d) {
			t.Errorf("the opposite of %d bytes is %s, %v", bytes, shownDesk(after), done)
		}
		after, done = impl.DeskDo(d, impl.Deed{Kind: impl.DkBasic})
		if basic := "b" + strings.Repeat(">0)", bytes-1); done != (bytes > 1 && 4*(bytes-1)+1 <= 60) || done && after.Now.Text != strings.Repeat("(", bytes-1)+basic || !done && !sameDesk(after, d) {
			t.Errorf("with following and false alone %d bytes are %s, %v", bytes, shownDesk(after), done)
		}
	}
}

func TestP57OthersAreNotDone(t *testing.T) {
	desks := []impl.Desk{deskOf(impl.Laid{Steps: 3, Text: "(a|b)"}), deskOf(impl.Laid{Steps: 3, Text: "(a|b)"}, pastOf(8)...)}
	eachNoDeed(func(a impl.Deed) {
		for _, d := range desks {
			checkDone(t, d, a, d, false)
		}
	})
	for _, d := range desks {
		for _, steps := range badSteps {
			checkDone(t, d, impl.Deed{Kind: impl.DkChain, Steps: steps}, d, false)
		}
	}
}

func TestP57OthersAreNoDesks(t *testing.T) {
	deeds := []impl.Deed{{Kind: impl.DkChain, Steps: 2}, {Kind: impl.DkSay, Text: "b"}, {Kind: impl.DkNot}, {Kind: impl.DkTimes, Text: "b"}, {Kind: impl.DkIf, Text: "c"}, {Kind: impl.DkBasic}, {Kind: impl.DkBack}, {Kind: -1}, {Kind: 7}, {Kind: impl.DkSay}, {Kind: impl.DkNot, Steps: 1}}
	eachNoDesk(func(d impl.Desk) {
		for _, a := range deeds {
			checkDone(t, d, a, impl.Desk{}, false)
		}
	})
}

// eachDeskMade calls a function for each way to make a desk of one, in which something is done, put back, left out, or asked.
func eachDeskMade(check func(name string, made func(d impl.Desk) impl.Desk)) {
	for _, line := range []string{"say (b&c)", "chain 1", "chain 2", "not", "times a", "if a", "basic", "back", "chain 0", "say !a", "steps", "at 0 0 0", "from a", "", "what"} {
		a, ok := impl.ReadDeed(line)
		if !ok {
			a = impl.Deed{Kind: impl.DkSay, Text: line}
		}
		check("DeskDo "+line, func(d impl.Desk) impl.Desk {
			after, _ := impl.DeskDo(d, a)
			return after
		})
		for _, times := range []int{0, 1, 3} {
			check("DeskRun "+line, func(d impl.Desk) impl.Desk {
				after, _ := impl.DeskRun(d, slices.Repeat([]impl.Deed{a}, times))
				return after
			})
			check("DeskSay "+line, func(d impl.Desk) impl.Desk {
				after, _ := impl.DeskSay(d, slices.Repeat([]string{line}, times))
				return after
			})
		}
		check("DeskLine "+line, func(d impl.Desk) impl.Desk {
			after, _ := impl.DeskLine(d, line)
			return after
		})
	}
	for _, a := range []impl.Deed{{Kind: impl.DkNot, Steps: 1}, {Kind: impl.DkBack, Text: "a"}, {Kind: impl.DkSay, Steps: 2, Text: "b"}, {Kind: impl.DkChain, Steps: 3, Text: "a"}, {Kind: impl.DkChain, Steps: math.MaxInt}, {Kind: -1}, {Kind: 7}, {Kind: 7, Steps: 1}} {
		check("DeskDo "+shownDeed(a), func(d impl.Desk) impl.Desk {
			after, _ := impl.DeskDo(d, a)
			return after
		})
		check("DeskRun "+shownDeed(a), func(d impl.Desk) impl.Desk {
			after, _ := impl.DeskRun(d, []impl.Deed{a})
			return after
		})
	}
}

// desksToHand returns desks, and some that are none, with each number of pairs of before.
func desksToHand() []impl.Desk {
	list := fewNoDesks()
	for length := range 9 {
		list = append(list, deskOf(impl.Laid{Steps: 2, Text: "!a"}, pastOf(length)...))
	}
	return list
}

func TestP57DesksStayAsTheyAre(t *testing.T) {
	eachDeskMade(func(name string, made func(d impl.Desk) impl.Desk) {
		for _, d := range desksToHand() {
			handed := deskRoom(d)
			made(handed)
			if want := deskRoom(d); handed.Now != d.Now || len(handed.Past) != len(d.Past) || !slices.Equal(handed.Past[:cap(handed.Past)], want.Past[:cap(handed.Past)]) {
				t.Errorf("%s: %s has become %s", name, shownDesk(d), shownDesk(handed))
			}
		}
	})
}

func TestP57NewMemory(t *testing.T) {
	eachDeskMade(func(name string, made func(d impl.Desk) impl.Desk) {
		for _, d := range desksToHand() {
			handed := deskRoom(d)
			first, second := made(handed), made(handed)
			want := deskOf(second.Now, second.Past...)
			spoilDesk(first)
			if !slices.Equal(handed.Past[:cap(handed.Past)], deskRoom(d).Past[:cap(handed.Past)]) {
				t.Errorf("%s: writing to what %s becomes changes it", name, shownDesk(d))
			}
			if !sameDesk(second, want) {
				t.Errorf("%s: writing to what %s becomes changes another one", name, shownDesk(d))
			}
			spoilDesk(handed)
			if !sameDesk(second, want) {
				t.Errorf("%s: writing to %s changes what it becomes", name, shownDesk(d))
			}
		}
	})
}

func TestP57DesksOfOneDesk(t *testing.T) {
	eachDeskMade(func(name string, made func(d impl.Desk) impl.Desk) {
		before := deskOf(impl.Laid{Steps: 5, Text: "b"}, pastOf(2)...)
		middle := made(before)
		want := deskOf(middle.Now, middle.Past...)
		first, _ := impl.DeskDo(middle, impl.Deed{Kind: impl.DkSay, Text: "(c+c)"})
		second, _ := impl.DeskDo(middle, impl.Deed{Kind: impl.DkSay, Text: "(c*c)"})
		spoilDesk(first)
		if !sameDesk(middle, want) || !sameDesk(second, deskOf(impl.Laid{Steps: want.Now.Steps, Text: "(c*c)"}, append(want.Past, want.Now)...)) {
			t.Errorf("%s: writing to a desk changes the one of before, %s, or another one behind that, %s", name, shownDesk(middle), shownDesk(second))
		}
	})
}

// P58: Whatever is done, it is a desk.
func TestP58RunByHand(t *testing.T) {
	d := newDesk(t, 4)
	list := []impl.Deed{{Kind: impl.DkIf, Text: "b"}, {Kind: impl.DkNot}, {Kind: impl.DkSay, Text: "a>"}, {Kind: impl.DkBasic}, {Kind: impl.DkChain, Steps: 9}, {Kind: impl.DkBack}, {Kind: 7}, {Kind: impl.DkTimes, Text: "c"}, {Kind: impl.DkChain, Steps: 4}}
	x := func(s string) impl.Laid { return impl.Laid{Steps: 4, Text: s} }
	wants := []impl.Desk{
		deskOf(x("a")), deskOf(x("(b>a)"), x("a")), deskOf(x("!(b>a)"), x("a"), x("(b>a)")), deskOf(x("!(b>a)"), x("a"), x("(b>a)")), deskOf(x("((b>a)>0)"), x("a"), x("(b>a)"), x("!(b>a)")), deskOf(x("((b>a)>0)"), x("a"), x("(b>a)"), x("!(b>a)")),
		deskOf(x("!(b>a)"), x("a"), x("(b>a)")), deskOf(x("!(b>a)"), x("a"), x("(b>a)")), deskOf(x("(!(b>a)*c)"), x("a"), x("(b>a)"), x("!(b>a)")), deskOf(x("(!(b>a)*c)"), x("a"), x("(b>a)"), x("!(b>a)")),
	}
	counts := []int{0, 1, 2, 2, 3, 3, 4, 4, 5, 5}
	for n, want := range wants {
		checkRun(t, d, list[:n], want, counts[n])
	}
}

// someLists returns lists of deeds, always the same ones, of none up to MaxLines; some deeds are none.
func someLists() [][]impl.Deed {
	source := rand.New(rand.NewSource(58))
	deeds := someDeeds()
	none := []impl.Deed{{Kind: -1}, {Kind: 7}, {Kind: impl.DkSay, Text: "a>"}, {Kind: impl.DkNot, Steps: 1}, {Kind: impl.DkBack, Text: "a"}, {Kind: impl.DkChain, Steps: 3, Text: "a"}, {Kind: impl.DkTimes}, {Kind: impl.DkIf, Text: "d"}, {Kind: impl.DkChain, Steps: math.MaxInt}, {Kind: math.MinInt}}
	var lists [][]impl.Deed
	for length := range 41 {
		for range 4 {
			var list []impl.Deed
			for range length {
				if source.Intn(8) == 0 {
					list = append(list, none[source.Intn(len(none))])
				} else {
					list = append(list, deeds[source.Intn(len(deeds))])
				}
			}
			lists = append(lists, list)
		}
	}
	return lists
}

func TestP58RunInWords(t *testing.T) {
	desks := someDesks()
	for i, list := range someLists() {
		d := desks[i*7%len(desks)]
		want, count := d, 0
		for _, a := range list {
			after, done := doneInWords(want, a)
			if done {
				count++
			}
			want = after
		}
		checkRun(t, d, list, want, count)
		checkDesk(t, want, true)
	}
}

func TestP58TwoParts(t *testing.T) {
	desks := someDesks()
	for i, list := range someLists() {
		d := desks[i*5%len(desks)]
		want, count := impl.DeskRun(d, list)
		checkDesk(t, want, true)
		for at := range len(list) + 1 {
			middle, first := impl.DeskRun(d, list[:at])
			after, second := impl.DeskRun(middle, list[at:])
			if !sameDesk(after, want) || first+second != count {
				t.Errorf("%d deeds lead %s to %s, but in two parts to %s", len(list), shownDesk(d), shownDesk(want), shownDesk(after))
			}
		}
	}
}

func TestP58NoDeedsAndMaxLines(t *testing.T) {
	d := deskOf(impl.Laid{Steps: 3, Text: "b"}, pastOf(8)...)
	checkRun(t, d, nil, d, 0)
	checkRun(t, d, []impl.Deed{}, d, 0)
	checkRun(t, newDesk(t, 1), nil, newDesk(t, 1), 0)
	for length := 36; length <= 44; length++ {
		want, count := deskOf(impl.Laid{Steps: 3, Text: strings.Repeat("!", length) + "b"}), length
		for i := length - 8; i < length; i++ {
			want.Past = append(want.Past, impl.Laid{Steps: 3, Text: strings.Repeat("!", i) + "b"})
		}
		if length > 40 {
			want, count = impl.Desk{}, 0
		}
		checkRun(t, d, slices.Repeat([]impl.Deed{{Kind: impl.DkNot}}, length), want, count)
	}
}

func TestP58TooManyDeeds(t *testing.T) {
	d := newDesk(t, 2)
	for _, length := range []int{41, 42, 80, 255, 256, 257, 296, 65536, 65536 + 40, 1 << 20} {
		for _, a := range []impl.Deed{{Kind: impl.DkNot}, {Kind: impl.DkBack}, {Kind: -1}, {Kind: impl.DkSay, Text: "a>"}} {
			checkRun(t, d, slices.Repeat([]impl.Deed{a}, length), impl.Desk{}, 0)
		}
	}
}

func TestP58NothingIsDone(t *testing.T) {
	d := deskOf(impl.Laid{Steps: 3, Text: "(a|b)"})
	eachNoDeed(func(a impl.Deed) {
		checkRun(t, d, []impl.Deed{a}, d, 0)
		checkRun(t, d, []impl.Deed{a, {Kind: impl.DkNot}, a}, deskOf(impl.Laid{Steps: 3, Text: "!(a|b)"}, d.Now), 1)
	})
	checkRun(t, d, slices.Repeat([]impl.Deed{{Kind: impl.DkBack}}, 40), d, 0)
}

func TestP58OthersAreNoDesks(t *testing.T) {
	eachNoDesk(func(d impl.Desk) {
		checkRun(t, d, nil, impl.Desk{}, 0)
		checkRun(t, d, []impl.Deed{{Kind: impl.DkSay, Text: "b"}, {Kind: impl.DkChain, Steps: 2}}, impl.Desk{}, 0)
	})
	for _, d := range fewNoDesks() {
		checkRun(t, d, slices.Repeat([]impl.Deed{{Kind: impl.DkNot}}, 41), impl.Desk{}, 0)
		checkRun(t, d, []impl.Deed{{Kind: impl.DkBack}}, impl.Desk{}, 0)
	}
}

// deedsRoom returns deeds with room behind their end, which no function may write to.
func deedsRoom(list []impl.Deed) []impl.Deed {
	whole := append(slices.Clone(list), impl.Deed{Kind: -7, Steps: 7, Text: "behind"}, impl.Deed{}, impl.Deed{Kind: impl.DkNot})
	return whole[:len(list):len(whole)]
}

func TestP58DeedsStayAsTheyAre(t *testing.T) {
	for _, list := range append(someLists(), slices.Repeat([]impl.Deed{{Kind: impl.DkNot}}, 41), nil) {
		for _, d := range []impl.Desk{{}, deskOf(impl.Laid{Steps: 3, Text: "b"}, pastOf(3)...)} {
			handed := deedsRoom(list)
			impl.DeskRun(d, handed)
			impl.JournalText(handed)
			if want := deedsRoom(list); len(handed) != len(list) || !slices.Equal(handed[:cap(handed)], want[:cap(handed)]) {
				t.Errorf("%v has become %v", want[:cap(handed)], handed[:cap(handed)])
			}
		}
	}
}

// P69: Texts of deeds are read.
func TestP69TextsByHand(t *testing.T) {
	for _, x := range deedsByHand {
		checkDeedText(t, x.deed, x.text)
		checkRead(t, x.text, x.deed, true)
	}
}

func TestP69TextsInWords(t *testing.T) {
	for kind := -3; kind <= 10; kind++ {
		for steps := -3; steps <= 13; steps++ {
			for _, s := range append([]string{"", "a", "(a>b)", "!c", "b>", "3", ofBytes(59), ofBytes(60), ofBytes(61)}, noFormulas[:20]...) {
				a := impl.Deed{Kind: kind, Steps: steps, Text: s}
				checkDeedText(t, a, textInWords(a))
			}
		}
	}
}

func TestP69AllTextsAreRead(t *testing.T) {
	for _, a := range someDeeds() {
		checkDeedText(t, a, textInWords(a))
		checkRead(t, textInWords(a), a, true)
	}
	for kind, word := range deedWordsByHand {
		for _, x := range builtMany() {
			if kind == impl.DkSay || kind == impl.DkTimes || kind == impl.DkIf {
				checkDeedText(t, impl.Deed{Kind: kind, Text: x.text}, word+" "+x.text)
				checkRead(t, word+" "+x.text, impl.Deed{Kind: kind, Text: x.text}, true)
			}
		}
	}
}

func TestP69OthersHaveNoText(t *testing.T) {
	eachNoDeed(func(a impl.Deed) { checkDeedText(t, a, "") })
	for _, kind := range append([]int{0, 1, 2, 3, 4, 5, 6}, noKinds...) {
		for _, steps := range badSteps {
			if kind != impl.DkChain && steps != 0 || steps < 0 || steps > 9 {
				checkDeedText(t, impl.Deed{Kind: kind, Steps: steps}, "")
			}
		}
	}
}

// P70: Read texts are canonical.
func TestP70OthersAreRefused(t *testing.T) {
	for _, s := range noDeeds {
		checkRead(t, s, impl.Deed{}, false)
	}
	eachNoFormula(func(s string) {
		for _, word := range append([]string{"", "and"}, deedWordsByHand...) {
			if word != "chain" || len(s) != 1 || s[0] < '0' || s[0] > '9' {
				checkRead(t, word+" "+s, impl.Deed{}, false)
			}
		}
	})
}

func TestP70WithASpaceRefused(t *testing.T) {
	for _, a := range someDeeds() {
		text := textInWords(a)
		for _, s := range []string{text + " ", " " + text, text + "\n", text + "\x00", text + "\t", text + " a", text + text, text + "\n" + text, text + " " + text, strings.Replace(text, " ", "  ", 1) + "  "} {
			checkRead(t, s, impl.Deed{}, false)
		}
		if strings.Contains(text, " ") {
			for _, between := range []string{"", "  ", "\t", "\n", "\x00", "_", "\u00a0"} {
				checkRead(t, strings.Replace(text, " ", between, 1), impl.Deed{}, false)
			}
		}
	}
}

func TestP70OneByteApart(t *testing.T) {
	some := []int{0, '\n', ' ', '!', '(', ')', '0', '3', 'a', 'd', '>', '~', 128, 255}
	for _, x := range deedsByHand {
		for at := range len(x.text) + 1 {
			for b := range 256 {
				if len(x.text) > 20 && !slices.Contains(some, b) {
					continue
				}
				texts := []string{x.text[:at] + string([]byte{byte(b)}) + x.text[at:]}
				if at < len(x.text) {
					texts = append(texts, x.text[:at]+string([]byte{byte(b)})+x.text[at+1:], x.text[:at]+x.text[at+1:])
				}
				for _, s := range texts {
					want, ok := readInWords(s)
					checkRead(t, s, want, ok)
				}
			}
		}
	}
}

func TestP70ReadIsTheText(t *testing.T) {
	for _, word := range append([]string{"", " ", "at", "from", "say not"}, deedWordsByHand...) {
		for _, between := range []string{"", " ", "  ", "\n"} {
			for _, behind := range append([]string{"", "0", "9", "10", "-1", "a", "b ", "(a>b)", "((a))", ofBytes(60), ofBytes(61)}, formulasByHand...) {
				s := word + between + behind
				want, ok := readInWords(s)
				checkRead(t, s, want, ok)
				if got, ok := impl.ReadDeed(s); ok && impl.DeedText(got) != s {
					t.Errorf("ReadDeed(%q) is %s, of which the text is %q", s, shownDeed(got), impl.DeedText(got))
				}
			}
		}
	}
}

func TestP70NumbersOfSteps(t *testing.T) {
	for number := -300; number <= 300; number++ {
		want, ok := impl.Deed{Kind: impl.DkChain, Steps: number}, number >= 0 && number <= 9
		if !ok {
			want = impl.Deed{}
		}
		checkRead(t, "chain "+strconv.Itoa(number), want, ok)
		for _, ahead := range []string{"0", "+", "-", "00", " ", "_", "0x"} {
			if number >= 0 {
				checkRead(t, "chain "+ahead+strconv.Itoa(number), impl.Deed{}, false)
			}
		}
	}
}

func TestP70LongTextsAreRefused(t *testing.T) {
	for _, part := range []string{" ", "a", "0", "\n", "chain ", "say ", "not ", "back\n", "say a ", "!", "("} {
		for _, times := range []int{30, 61, 256, 1 << 18} {
			s := strings.Repeat(part, times)
			for _, ahead := range []string{"", "chain ", "say ", "times ", "if ", "not ", "basic ", "back "} {
				checkRead(t, ahead+s, impl.Deed{}, false)
			}
		}
	}
}

// P71: Journals are read.
func TestP71JournalByHand(t *testing.T) {
	list := []impl.Deed{{Kind: impl.DkChain, Steps: 3}, {Kind: impl.DkSay, Text: "(a>b)"}, {Kind: impl.DkNot}, {Kind: impl.DkTimes, Text: "c"}, {Kind: impl.DkIf, Text: "!b"}, {Kind: impl.DkBasic}, {Kind: impl.DkBack}, {Kind: impl.DkChain}, {Kind: impl.DkChain, Steps: 9}}
	text := "chain 3\nsay (a>b)\nnot\ntimes c\nif !b\nbasic\nback\nchain 0\nchain 9\n"
	checkJournalText(t, list, text)
	checkJournal(t, text, list, len(text))
	for _, x := range deedsByHand {
		checkJournalText(t, []impl.Deed{x.deed}, x.text+"\n")
		checkJournal(t, x.text+"\n", []impl.Deed{x.deed}, len(x.text)+1)
		checkJournal(t, x.text, nil, 0)
	}
}

// journals returns lists of deeds that all have a text, always the same ones.
func journals() [][]impl.Deed {
	source := rand.New(rand.NewSource(71))
	deeds := someDeeds()
	lists := [][]impl.Deed{nil, deeds}
	for _, length := range []int{1, 1, 1, 2, 2, 3, 4, 5, 8, 13, 20, 39, 40, 41, 60} {
		var list []impl.Deed
		for range length {
			list = append(list, deeds[source.Intn(len(deeds))])
		}
		lists = append(lists, list)
	}
	return lists
}

// journalInWords returns the text of a journal whose deeds all have a text.
func journalInWords(list []impl.Deed) string {
	text := ""
	for _, a := range list {
		text += textInWords(a) + "\n"
	}
	return text
}

func TestP71JournalsAreRead(t *testing.T) {
	for _, list := range journals() {
		text := journalInWords(list)
		checkJournalText(t, list, text)
		checkJournal(t, text, list, len(text))
	}
	many := slices.Repeat([]impl.Deed{{Kind: impl.DkNot}, {Kind: impl.DkSay, Text: "(a&b)"}}, 30000)
	checkJournalText(t, many, strings.Repeat("not\nsay (a&b)\n", 30000))
	checkJournal(t, strings.Repeat("not\nsay (a&b)\n", 30000), many, 14*30000)
}

func TestP71NoDeeds(t *testing.T) {
	checkJournalText(t, nil, "")
	checkJournalText(t, []impl.Deed{}, "")
	checkJournal(t, "", nil, 0)
}

func TestP71OneHasNoText(t *testing.T) {
	good := impl.Deed{Kind: impl.DkBack}
	eachNoDeed(func(a impl.Deed) { checkJournalText(t, []impl.Deed{a}, "") })
	for _, a := range []impl.Deed{{Kind: -1}, {Kind: 7}, {Kind: impl.DkChain, Steps: 10}, {Kind: impl.DkChain, Steps: -1}, {Kind: impl.DkSay}, {Kind: impl.DkTimes, Text: "a>"}, {Kind: impl.DkNot, Steps: 1}, {Kind: impl.DkBack, Text: "a"}} {
		for length := 1; length <= 42; length++ {
			for place := range length {
				list := slices.Repeat([]impl.Deed{good}, length)
				list[place] = a
				checkJournalText(t, list, "")
			}
		}
	}
}

func TestP71NewMemory(t *testing.T) {
	for _, list := range journals() {
		text := journalInWords(list)
		first, _ := impl.ReadJournal(text)
		second, _ := impl.ReadJournal(text)
		spare := first[:cap(first)]
		for i := range spare {
			spare[i] = impl.Deed{Kind: -7}
		}
		if !slices.Equal(second, list) {
			t.Errorf("writing to the deeds that were read of %q changes others", shown(text))
		}
		checkJournal(t, text, list, len(text))
	}
}

// P59: Wherever a journal is cut, a desk of before is found.
func TestP59CutAnywhere(t *testing.T) {
	for _, list := range journals() {
		text := journalInWords(list)
		for cut := range len(text) + 1 {
			whole := strings.Count(text[:cut], "\n")
			bytes := strings.LastIndex(text[:cut], "\n") + 1
			checkJournal(t, text[:cut], list[:whole], bytes)
		}
	}
}

func TestP59NoLineBetween(t *testing.T) {
	deeds := []impl.Deed{{Kind: impl.DkNot}, {Kind: impl.DkChain, Steps: 4}, {Kind: impl.DkSay, Text: "(a+b)"}}
	text := "not\nchain 4\nsay (a+b)\n"
	ends := []int{0, 4, 12, 22}
	for n, end := range ends {
		for _, s := range append(noDeeds, "steps", "always", "at 0 0 0", "from a", "\r", "not\r", "chain 4\r", "#", "not\x00") {
			// A text with a newline in it may be several lines, of which the first ones are some.
			if strings.Contains(s, "\n") {
				continue
			}
			checkJournal(t, text[:end]+s+"\n"+text[end:], deeds[:n], end)
			checkJournal(t, text[:end]+s+"\n", deeds[:n], end)
			checkJournal(t, text[:end]+s, deeds[:n], end)
		}
		checkJournal(t, text[:end]+"\n\n"+text[end:], deeds[:n], end)
		checkJournal(t, text[:end]+" "+text[end:], deeds[:n], end)
	}
	checkJournal(t, "not\r\nnot\r\n", nil, 0)
	checkJournal(t, "not\nnot \nnot\n", deeds[:1], 4)
	checkJournal(t, "if b\nback\nsay", []impl.Deed{{Kind: impl.DkIf, Text: "b"}, {Kind: impl.DkBack}}, 10)
}

func TestP59LastWithoutNewline(t *testing.T) {
	for _, x := range deedsByHand {
		checkJournal(t, "back\n"+x.text, []impl.Deed{{Kind: impl.DkBack}}, 5)
		checkJournal(t, "back\n"+x.text+"\n", []impl.Deed{{Kind: impl.DkBack}, x.deed}, 6+len(x.text))
		checkJournal(t, "back\n"+x.text+"\n\n", []impl.Deed{{Kind: impl.DkBack}, x.deed}, 6+len(x.text))
		checkJournal(t, "back\n"+x.text+"\nback", []impl.Deed{{Kind: impl.DkBack}, x.deed}, 6+len(x.text))
	}
}

func TestP59LongTexts(t *testing.T) {
	for _, part := range []string{"a", " ", "\n", "\x00", "\xff", "say ", "(", "chain 3", "not"} {
		for _, times := range []int{2, 61, 1 << 18} {
			checkJournal(t, strings.Repeat(part, times), nil, 0)
			checkJournal(t, strings.Repeat(part, times)+"\nnot\n", nil, 0)
			checkJournal(t, "not\n"+strings.Repeat(part, times)+"\nnot\n", []impl.Deed{{Kind: impl.DkNot}}, 4)
		}
	}
}

func TestP59WhatWasReadIsTheText(t *testing.T) {
	source := rand.New(rand.NewSource(59))
	pieces := []string{"not\n", "back\n", "basic\n", "chain 3\n", "say a\n", "times (a>b)\n", "if c\n", "not", "\n", " ", "say ", "a", "chain", "3", "x"}
	for range 3000 {
		text := ""
		for range source.Intn(9) {
			text += pieces[source.Intn(len(pieces))]
		}
		var want []impl.Deed
		bytes := 0
		for _, line := range strings.SplitAfter(text, "\n") {
			a, ok := readInWords(strings.TrimSuffix(line, "\n"))
			if !ok || !strings.HasSuffix(line, "\n") {
				break
			}
			want, bytes = append(want, a), bytes+len(line)
		}
		checkJournal(t, text, want, bytes)
		list, n := impl.ReadJournal(text)
		checkJournalText(t, list, text[:n])
	}
}

func TestP59LineByLine(t *testing.T) {
	desks := someDesks()
	for i, list := range journals() {
		d, text := desks[i*11%len(desks)], journalInWords(list)
		for cut := 0; cut <= len(text); cut += 1 + len(text)/60 {
			read, n := impl.ReadJournal(text[:cut])
			if len(read) > impl.MaxLines {
				break
			}
			want, count := impl.DeskRun(d, read)
			lines := strings.Split(text[:n], "\n")
			after, answers := impl.DeskSay(d, lines[:len(lines)-1])
			done := len(answers) - strings.Count(strings.Join(answers, " "), "not")
			if !sameDesk(after, want) || done != count || len(answers) != len(read) {
				t.Errorf("%q leads %s to %s, %d, but line by line to %s, %v", shown(text[:n]), shownDesk(d), shownDesk(want), count, shownDesk(after), answers)
			}
		}
	}
}

// P72: Questions change nothing.
func TestP72AnswersByHand(t *testing.T) {
	for _, x := range answersOfDesks {
		for _, length := range []int{0, 1, 8} {
			d := deskOf(impl.Laid{Steps: x.steps, Text: x.text}, pastOf(length)...)
			for line, answer := range x.answers {
				checkLine(t, d, line, d, answer)
			}
		}
	}
}

func TestP72AnswersInWords(t *testing.T) {
	lines := slices.Concat(questionWords, []string{"at 0 0 0", "at 1 1 1", "at 1 0 1", "at 0 1 2", "at 3 2 1", "at 6 5 4", "at 7 0 0", "at 0 0 10", "at 99 99 99", "from a", "from 0", "from 1", "from (a>b)", "from (b|!c)", "from " + ofBytes(60), "from " + ofBytes(61), "not", "basic", "back", "chain 3", "chain 8", "say (a>b)", "times c", "if (a+b)", "", "what", "at 1 2", "from", "steps "})
	for _, d := range someDesks() {
		for _, line := range lines {
			want, answer := lineInWords(d, line)
			checkLine(t, d, line, want, answer)
		}
	}
}

func TestP72OfBuilt(t *testing.T) {
	for _, x := range builtMany() {
		for _, steps := range []int{1, 4} {
			d := deskOf(impl.Laid{Steps: steps, Text: x.text})
			values := valuesOf(x, steps)
			least := slices.Min(values)
			checkLine(t, d, "least", d, impl.ValueText(steps, least))
			checkLine(t, d, "always", d, yesInWords(least == steps))
			checkLine(t, d, "letters", d, strconv.Itoa(x.letters))
			checkLine(t, d, "moves", d, strconv.Itoa(movesOfBuilt(steps, x)))
			checkLine(t, d, "row", d, withCommas(saidOfBuilt(steps, x)))
			checkLine(t, d, "text", d, x.text)
			checkLine(t, d, "from "+x.text, d, "yes")
			checkLine(t, d, "at 1 0 1", d, impl.ValueText(steps, x.value(steps, 1, 0, 1)))
		}
	}
}

func TestP72DeedsAreDone(t *testing.T) {
	for _, x := range doneByHand {
		now := impl.Laid{Steps: x.steps, Text: x.text}
		if x.after.Text == "" {
			checkLine(t, deskOf(now), x.deed, deskOf(now), "not")
		} else {
			checkLine(t, deskOf(now), x.deed, deskOf(x.after, now), "ok")
		}
	}
	d := deskOf(impl.Laid{Steps: 2, Text: "b"}, pastOf(8)...)
	checkLine(t, d, "back", deskOf(d.Past[7], d.Past[:7]...), "ok")
	checkLine(t, d, "not", deskOf(impl.Laid{Steps: 2, Text: "!b"}, append(d.Past[1:], d.Now)...), "ok")
	checkLine(t, deskOf(impl.Laid{Steps: 2, Text: ofBytes(60)}), "not", deskOf(impl.Laid{Steps: 2, Text: ofBytes(60)}), "not")
}

func TestP72ADeskUnlessOk(t *testing.T) {
	lines := slices.Concat(questionWords, noLines, []string{"at 1 1 1", "at 2 0 10", "from b"})
	for _, x := range deedsByHand {
		lines = append(lines, x.text)
	}
	for i, d := range someDesks() {
		for k, line := range lines {
			if (i+k)%3 == 0 {
				after, answer := impl.DeskLine(d, line)
				if !impl.DeskOk(after) || answer == "" || answer != "ok" && !sameDesk(after, d) {
					t.Errorf("DeskLine(%s; %q) is %s, %q", shownDesk(d), shown(line), shownDesk(after), answer)
				}
			}
		}
	}
}

func TestP72OtherLines(t *testing.T) {
	d := deskOf(impl.Laid{Steps: 4, Text: "(a>b)"}, pastOf(2)...)
	for _, line := range noLines {
		checkLine(t, d, line, d, "what")
	}
	for _, line := range noDeeds {
		if !slices.Contains(questionWords, line) && line != "from a" && line != "at 0 0 0" {
			checkLine(t, d, line, d, "what")
		}
	}
	eachNoFormula(func(s string) { checkLine(t, d, "from "+s, d, "what") })
}

func TestP72EmptyLine(t *testing.T) {
	for _, d := range someDesks() {
		checkLine(t, d, "", d, "what")
	}
}

func TestP72Numbers(t *testing.T) {
	d := deskOf(impl.Laid{Steps: 6, Text: "(a+(b+c))"})
	for number := -120; number <= 120; number++ {
		text := strconv.Itoa(number)
		for place := range 3 {
			numbers, values := []string{"0", "0", "0"}, []int{0, 0, 0}
			numbers[place], values[place] = text, number
			answer := "what"
			if number >= 0 && number <= 99 {
				answer = "none"
			}
			if number >= 0 && number <= 6 {
				answer = textsOfChains[5][number]
			}
			checkLine(t, d, "at "+strings.Join(numbers, " "), d, answer)
			for _, ahead := range []string{"0", "00", "+", "-", " "} {
				numbers[place] = ahead + text
				checkLine(t, d, "at "+strings.Join(numbers, " "), d, answerInWords(d.Now, "at "+strings.Join(numbers, " ")))
			}
		}
	}
}

func TestP72AllValues(t *testing.T) {
	x := builtPair(plusPlace, builtPair(timesPlace, builtAtoms[0], builtNot(builtAtoms[1])), builtAtoms[2])
	eachTriple(func(steps, a, b, c int) {
		d := deskOf(impl.Laid{Steps: steps, Text: x.text})
		line := "at " + strconv.Itoa(a) + " " + strconv.Itoa(b) + " " + strconv.Itoa(c)
		checkLine(t, d, line, d, textsOfChains[steps-1][x.value(steps, a, b, c)])
	})
}

func TestP72OneByteApart(t *testing.T) {
	d := deskOf(impl.Laid{Steps: 3, Text: "(a|b)"}, pastOf(1)...)
	for _, line := range append([]string{"at 1 2 3", "at 10 0 3", "from !a", "say b", "not", "chain 2", "back"}, questionWords...) {
		for at := range len(line) + 1 {
			for b := range 256 {
				lines := []string{line[:at] + string([]byte{byte(b)}) + line[at:]}
				if at < len(line) {
					lines = append(lines, line[:at]+string([]byte{byte(b)})+line[at+1:], line[:at]+line[at+1:])
				}
				for _, s := range lines {
					want, answer := lineInWords(d, s)
					checkLine(t, d, s, want, answer)
				}
			}
		}
	}
}

func TestP72LongLines(t *testing.T) {
	d := newDesk(t, 3)
	for _, part := range []string{" ", "a", "0", "0 ", "at ", "from ", "steps", "!", "(", "\n", "\x00", "say a "} {
		for _, times := range []int{30, 61, 1 << 18} {
			for _, ahead := range []string{"", "at ", "at 0 0 ", "from ", "say ", "chain ", "steps "} {
				checkLine(t, d, ahead+strings.Repeat(part, times), d, answerInWords(d.Now, ahead+strings.Repeat(part, times)))
			}
		}
	}
}

func TestP72OthersAreNoDesks(t *testing.T) {
	eachNoDesk(func(d impl.Desk) {
		for _, line := range []string{"", "steps", "text", "say b", "chain 2", "from a"} {
			checkLine(t, d, line, impl.Desk{}, "")
		}
	})
	for _, d := range fewNoDesks() {
		for _, line := range slices.Concat(questionWords, noLines, deedWordsByHand, []string{"at 0 0 0", "from 0", "not", "back"}) {
			checkLine(t, d, line, impl.Desk{}, "")
		}
	}
}

// P60: Whatever is said, it follows of itself.
func TestP60Examples(t *testing.T) {
	lines := []string{"always", "against", "say (a|!a)", "always", "least", "against", "chains", "chain 3", "row", "at 1 0 0", "from (a*a)", "not", "text", "basic"}
	answers := []string{"no", "0,0,0", "ok", "no", "1/2", "1,0,0", "1", "ok", "3,2,2,3", "2/3", "yes", "ok", "!(a|!a)", "ok"}
	past := []impl.Laid{{Steps: 4, Text: "a"}, {Steps: 4, Text: "(a|!a)"}, {Steps: 3, Text: "(a|!a)"}, {Steps: 3, Text: "!(a|!a)"}}
	checkSaying(t, newDesk(t, 4), lines, deskOf(impl.Laid{Steps: 3, Text: "(((a>(a>0))>(a>0))>0)"}, past...), answers)
}

func TestP60SayingByHand(t *testing.T) {
	lines := []string{"back", "steps", "if b", "text", "", "times c", "text", "basic", "text", "chain 6", "back", "back", "back", "back", "back", "text", "chain 1", "always", "say (a|!a)", "always", "chain 2", "always", "chain 2", "at 1 2 2", "at 1 2 3", "at 1 2 03", "from b", "moves", "letters"}
	answers := []string{"not", "2", "ok", "(b>a)", "what", "ok", "((b>a)*c)", "ok", "(((b>a)>(c>0))>0)", "ok", "ok", "ok", "ok", "ok", "not", "a", "ok", "no", "ok", "yes", "ok", "no", "not", "1/2", "none", "what", "no", "1", "2"}
	past := []impl.Laid{{Steps: 2, Text: "a"}, {Steps: 1, Text: "a"}, {Steps: 1, Text: "(a|!a)"}}
	checkSaying(t, newDesk(t, 2), lines, deskOf(impl.Laid{Steps: 2, Text: "(a|!a)"}, past...), answers)
}

// someLines returns lists of lines, always the same ones, of none up to MaxLines.
func someLines() [][]string {
	source := rand.New(rand.NewSource(60))
	deeds := someDeeds()
	asked := slices.Concat(questionWords, noLines, []string{"at 0 0 0", "at 1 1 1", "at 2 1 0", "at 6 6 6", "at 0 0 7", "at 10 11 12", "from a", "from 0", "from (a>b)", "from (b+c)"})
	var lists [][]string
	for length := range 41 {
		for range 3 {
			var lines []string
			for range length {
				if source.Intn(2) == 0 {
					lines = append(lines, textInWords(deeds[source.Intn(len(deeds))]))
				} else {
					lines = append(lines, asked[source.Intn(len(asked))])
				}
			}
			lists = append(lists, lines)
		}
	}
	return lists
}

func TestP60SayingInWords(t *testing.T) {
	desks := someDesks()
	for i, lines := range someLines() {
		d := desks[i*13%len(desks)]
		want := d
		var answers []string
		for _, line := range lines {
			after, answer := lineInWords(want, line)
			want, answers = after, append(answers, answer)
		}
		checkSaying(t, d, lines, want, answers)
		if slices.Contains(answers, "") {
			t.Errorf("%v has an empty answer", lines)
		}
	}
}

func TestP60TwoParts(t *testing.T) {
	desks := someDesks()
	for i, lines := range someLines() {
		d := desks[i*17%len(desks)]
		want, answers := impl.DeskSay(d, lines)
		for at := 0; at <= len(lines); at += 1 + at/6 {
			middle, first := impl.DeskSay(d, lines[:at])
			after, second := impl.DeskSay(middle, lines[at:])
			if !sameDesk(after, want) || !slices.Equal(slices.Concat(first, second), answers) {
				t.Errorf("%v lead %s to %s, %v, but in two parts to %s, %v, %v", lines, shownDesk(d), shownDesk(want), answers, shownDesk(after), first, second)
			}
		}
	}
}

func TestP60FollowsOfItself(t *testing.T) {
	desks := someDesks()
	for i, lines := range someLines() {
		after, _ := impl.DeskSay(desks[i*19%len(desks)], lines)
		checkSaying(t, after, []string{"from " + after.Now.Text, "from 0", "text"}, after, []string{"yes", "yes", after.Now.Text})
	}
}

func TestP60NoLinesAndMaxLines(t *testing.T) {
	d := deskOf(impl.Laid{Steps: 3, Text: "b"}, pastOf(8)...)
	checkSaying(t, d, nil, d, nil)
	checkSaying(t, d, []string{}, d, nil)
	checkSaying(t, d, []string{""}, d, []string{"what"})
	for length := 36; length <= 44; length++ {
		want, answers := d, slices.Repeat([]string{"3"}, length)
		if length > 40 {
			want, answers = impl.Desk{}, nil
		}
		checkSaying(t, d, slices.Repeat([]string{"steps"}, length), want, answers)
	}
}

func TestP60TooManyLines(t *testing.T) {
	d := newDesk(t, 2)
	for _, length := range []int{41, 42, 80, 255, 256, 257, 296, 65536, 65536 + 40, 1 << 20} {
		for _, line := range []string{"", "not", "steps", "back"} {
			checkSaying(t, d, slices.Repeat([]string{line}, length), impl.Desk{}, nil)
		}
	}
}

func TestP60OthersAreNoDesks(t *testing.T) {
	eachNoDesk(func(d impl.Desk) {
		checkSaying(t, d, nil, impl.Desk{}, nil)
		checkSaying(t, d, []string{"steps", "say b", ""}, impl.Desk{}, nil)
	})
	for _, d := range fewNoDesks() {
		checkSaying(t, d, slices.Repeat([]string{"not"}, 41), impl.Desk{}, nil)
		checkSaying(t, d, []string{"back"}, impl.Desk{}, nil)
	}
}

func TestP60LinesStayAsTheyAre(t *testing.T) {
	for _, lines := range append(someLines(), slices.Repeat([]string{"not"}, 41), nil) {
		for _, d := range []impl.Desk{{}, deskOf(impl.Laid{Steps: 3, Text: "b"}, pastOf(3)...)} {
			handed := handedOut(lines)
			_, answers := impl.DeskSay(d, handed)
			spare := answers[:cap(answers)]
			for i := range spare {
				spare[i] = "spoilt"
			}
			if want := handedOut(lines); len(handed) != len(lines) || !slices.Equal(handed[:cap(handed)], want[:cap(handed)]) {
				t.Errorf("%q has become %q", want[:cap(handed)], handed[:cap(handed)])
			}
		}
	}
}

func TestP60NewMemory(t *testing.T) {
	for _, lines := range someLines() {
		d := newDesk(t, 4)
		_, first := impl.DeskSay(d, lines)
		_, second := impl.DeskSay(d, lines)
		want := slices.Clone(second)
		spare := first[:cap(first)]
		for i := range spare {
			spare[i] = "spoilt"
		}
		if !slices.Equal(second, want) {
			t.Errorf("writing to the answers to %q changes others", shownList(lines))
		}
	}
}
