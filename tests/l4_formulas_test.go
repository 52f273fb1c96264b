package tests

import (
	"math"
	"math/rand"
	"regexp"
	"strings"
	"testing"

	"loop.example/manyvalues/impl"
)

// built is a formula put together from its parts, never read, with what the document tells of it; basic may be too long here.
type built struct {
	text    string
	basic   string
	letters int
	value   func(steps, a, b, c int) int
	truth   func(a, b, c bool) bool
}

// signMarks has the signs by which formulas write signsOfTwo, in the same order.
const signMarks = ">+*&|"

// builtAtoms has the formulas of one byte.
var builtAtoms = []built{
	{"a", "a", 1, func(_, a, _, _ int) int { return a }, func(a, _, _ bool) bool { return a }},
	{"b", "b", 1, func(_, _, b, _ int) int { return b }, func(_, b, _ bool) bool { return b }},
	{"c", "c", 1, func(_, _, _, c int) int { return c }, func(_, _, c bool) bool { return c }},
	{"0", "0", 0, func(_, _, _, _ int) int { return 0 }, func(_, _, _ bool) bool { return false }},
	{"1", "(0>0)", 0, func(steps, _, _, _ int) int { return steps }, func(_, _, _ bool) bool { return true }},
}

// builtNot returns the opposite of a formula.
func builtNot(x built) built {
	return built{
		text:    "!" + x.text,
		basic:   "(" + x.basic + ">0)",
		letters: x.letters,
		value:   func(steps, a, b, c int) int { return impl.NotOf(steps, x.value(steps, a, b, c)) },
		truth:   func(a, b, c bool) bool { return !x.truth(a, b, c) },
	}
}

// builtPair returns two formulas with a sign, told by its place in signMarks, between them.
func builtPair(place int, x, y built) built {
	basics := []string{"(x>y)", "((x>0)>y)", "((x>(y>0))>0)", "((x>((x>y)>0))>0)", "((x>y)>y)"}
	truths := []func(x, y bool) bool{
		func(x, y bool) bool { return !x || y },
		func(x, y bool) bool { return x || y },
		func(x, y bool) bool { return x && y },
		func(x, y bool) bool { return x && y },
		func(x, y bool) bool { return x || y },
	}
	return built{
		text:    "(" + x.text + signMarks[place:place+1] + y.text + ")",
		basic:   strings.NewReplacer("x", x.basic, "y", y.basic).Replace(basics[place]),
		letters: x.letters + y.letters,
		value: func(steps, a, b, c int) int {
			return signsOfTwo[place].of(steps, x.value(steps, a, b, c), y.value(steps, a, b, c))
		},
		truth: func(a, b, c bool) bool { return truths[place](x.truth(a, b, c), y.truth(a, b, c)) },
	}
}

// builtSmall returns all formulas of at most one sign.
func builtSmall() []built {
	list := append([]built{}, builtAtoms...)
	for _, x := range builtAtoms {
		list = append(list, builtNot(x))
		for _, y := range builtAtoms {
			for place := range signMarks {
				list = append(list, builtPair(place, x, y))
			}
		}
	}
	return list
}

// builtOfLength returns a formula of so many bytes, made of the atoms, by a source of numbers.
func builtOfLength(source *rand.Rand, atoms []built, length int) built {
	switch {
	case length <= 1:
		return atoms[source.Intn(len(atoms))]
	case length < 5 || source.Intn(6) == 0:
		return builtNot(builtOfLength(source, atoms, length-1))
	}
	ahead := 1 + source.Intn(length-4)
	x := builtOfLength(source, atoms, ahead)
	y := builtOfLength(source, atoms, length-3-ahead)
	return builtPair(source.Intn(len(signMarks)), x, y)
}

// builtOfAllLengths returns so many formulas of each length up to MaxFormula, made of the atoms, always the same ones.
func builtOfAllLengths(atoms []built, each int) []built {
	source := rand.New(rand.NewSource(4))
	var list []built
	for length := 1; length <= impl.MaxFormula; length++ {
		for range each {
			list = append(list, builtOfLength(source, atoms, length))
		}
	}
	return list
}

// deepOf puts a formula into brackets so many times, with an atom ahead of it or behind it.
func deepOf(place, times int, ahead bool, atom built) built {
	x := atom
	for range times {
		if ahead {
			x = builtPair(place, atom, x)
		} else {
			x = builtPair(place, x, atom)
		}
	}
	return x
}

var (
	atomPart = regexp.MustCompile(`[abc01]`)
	signPart = regexp.MustCompile(`!f|\(f[>+*&|]f\)`)
)

// shrinksToFormula tells without reading whether a text is a formula: each part that is one becomes an f, until none is left.
func shrinksToFormula(s string) bool {
	if len(s) > 60 || strings.Contains(s, "f") {
		return false
	}
	s = atomPart.ReplaceAllString(s, "f")
	for {
		shrunk := signPart.ReplaceAllString(s, "f")
		if shrunk == s {
			return s == "f"
		}
		s = shrunk
	}
}

// formulasByHand are formulas of all signs, in many orders.
var formulasByHand = []string{
	"a", "b", "c", "0", "1", "!a", "!b", "!c", "!0", "!1", "!!a", "!!!!1",
	"(a>b)", "(a+b)", "(a*b)", "(a&b)", "(a|b)", "(0>0)", "(1|1)", "(c*c)",
	"!(a>b)", "(!a>b)", "(a>!b)", "(!a>!b)", "!(!a>!!b)", "(a>!(b+0))",
	"((a>b)>c)", "(a>(b>c))", "((a+b)*(b&c))", "((a*b)|!c)", "(!(a|0)&!(1*!b))",
	"(a>(b>a))", "((a>b)>((b>c)>(a>c)))", "(((a>b)>b)>((b>a)>a))", "((!a>!b)>(b>a))",
}

// noFormulas are texts that are no formulas.
var noFormulas = []string{
	"", " ", "!", "!!", "d", "A", "B", "C", "f", "x", "2", "9", "-1", "00", "01", "10", "aa", "ab", "a1", "0a", "abc",
	"a>b", "a+b", "!a>b", "(a>b)>c", "a>(b>c)", "(a>b)(b>a)", "(a)", "(0)", "(!a)", "((a>b))", "()", "(", ")", ")(",
	"(>)", "(a>)", "(>b)", "(ab)", "(a!b)", "(a(b)", "(a>b", "a>b)", "(a>b))", "((a>b)", "(a>b>c)", "(a>b)a", "(a>b)!", "a(a>b)",
	"(a-b)", "(a<b)", "(a=b)", "(a/b)", "(a,b)", "(a^b)", "(a~b)", "(a>>b)", "(a->b)", "(a&&b)", "(a||b)", "(a>+b)",
	"[a>b]", "{a>b}", "<a>b>", "(a>b]", "[a>b)", "~a", "-a", "a!", "0!", "(a>b!)", "(a!>b)",
	" a", "a ", "a\n", "\na", "a\x00", "\x00", "\x00a", "( a>b)", "(a >b)", "(a> b)", "(a>b )", "! a", "(a>b)\n", "\t(a>b)",
	"\x80", "\xff", "a\xff", "(a\xffb)", "(a\u2192b)", "\u00aca", "(a\u2227b)", "\u03b1", "\uff41", "\u0430",
	"(a>d)", "(d>a)", "!d", "((a>b)>d)", "(2>a)", "(a>2)", "((a+b)*(b&))", "((a>b)>(b>c)", "true", "false",
}

// tooLong returns texts that would be formulas if they had no more than MaxFormula bytes.
func tooLong() []string {
	list := []string{"(" + strings.Repeat("!", 57) + "a>a)", "(a>" + strings.Repeat("!", 57) + "a)"}
	for _, bytes := range []int{61, 62, 63, 64, 100, 120, 128, 256, 257, 65536 + 1, 1 << 20} {
		list = append(list, strings.Repeat("!", bytes-1)+"a")
	}
	for _, times := range []int{15, 16, 30, 64, 1000, 1 << 18} {
		for _, mark := range signMarks {
			list = append(list, strings.Repeat("(a"+string(mark), times)+"b"+strings.Repeat(")", times))
			list = append(list, strings.Repeat("(", times)+"b"+strings.Repeat(string(mark)+"a)", times))
		}
	}
	return list
}

// noLongTexts are texts far longer than MaxFormula that are no formulas whatever their length.
func noLongTexts() []string {
	var list []string
	for _, part := range []string{"(", ")", "!", "a", "0", "(a", "(a>", "((a>b)", ">b)", "\x00", "\xff", " "} {
		for _, times := range []int{29, 30, 31, 59, 60, 61, 62, 1000, 1 << 20} {
			list = append(list, strings.Repeat(part, times))
		}
	}
	return append(list, "a"+strings.Repeat(" ", 60), strings.Repeat(" ", 60)+"a", "(a>b)"+strings.Repeat("\n", 56), "a"+strings.Repeat("\x00", 1<<20))
}

// eachNoFormula calls a function for texts that are no formulas.
func eachNoFormula(check func(s string)) {
	for _, list := range [][]string{noFormulas, tooLong(), noLongTexts()} {
		for _, s := range list {
			check(s)
		}
	}
}

// shown returns a text for a message, which is short.
func shown(s string) string {
	if len(s) > 80 {
		return s[:80] + ".."
	}
	return s
}

// checkFormula reports an error if FormulaOk is not what is wanted.
func checkFormula(t *testing.T, s string, want bool) {
	t.Helper()
	if got := impl.FormulaOk(s); got != want {
		t.Errorf("FormulaOk(%q) (%d bytes) is %v", shown(s), len(s), got)
	}
}

// checkValues checks the values of a formula for all values of the letters, in all chains.
func checkValues(t *testing.T, x built) {
	t.Helper()
	eachTriple(func(steps, a, b, c int) {
		if got, want := impl.ValueAt(steps, x.text, a, b, c), x.value(steps, a, b, c); got != want {
			t.Errorf("ValueAt(%d, %q, %d, %d, %d) is %d, not %d", steps, x.text, a, b, c, got, want)
		}
	})
}

// checkBasic checks BasicOf a formula.
func checkBasic(t *testing.T, x built) {
	t.Helper()
	want := x.basic
	if len(want) > 60 {
		want = ""
	}
	if got, ok := impl.BasicOf(x.text); got != want || ok != (want != "") {
		t.Errorf("BasicOf(%q) is %q, %v, not %q", x.text, got, ok, shown(x.basic))
	}
}

// checkLetters checks LettersIn a text.
func checkLetters(t *testing.T, s string, want int) {
	t.Helper()
	if got := impl.LettersIn(s); got != want {
		t.Errorf("LettersIn(%q) is %d, not %d", shown(s), got, want)
	}
}

func TestMaxFormula(t *testing.T) {
	if impl.MaxFormula != 60 {
		t.Fatal(impl.MaxFormula)
	}
}

// P17: Opposites of formulas are formulas.
func TestP17FormulasByHand(t *testing.T) {
	for _, s := range formulasByHand {
		checkFormula(t, s, true)
	}
}

func TestP17OthersAreNoFormulas(t *testing.T) {
	eachNoFormula(func(s string) { checkFormula(t, s, false) })
}

func TestP17BuiltAreFormulas(t *testing.T) {
	for _, x := range append(builtSmall(), builtOfAllLengths(builtAtoms, 40)...) {
		checkFormula(t, x.text, true)
	}
}

func TestP17OppositesExactlyOfFormulas(t *testing.T) {
	check := func(s string) {
		if len(s) < 60 && impl.FormulaOk("!"+s) != impl.FormulaOk(s) {
			t.Errorf("FormulaOk(%q) is %v, but not with ! ahead", s, impl.FormulaOk(s))
		}
	}
	eachNoFormula(check)
	for _, x := range append(builtSmall(), builtOfAllLengths(builtAtoms, 10)...) {
		check(x.text)
		check(x.text[1:])
		check(x.text[:len(x.text)-1])
	}
}

// All texts of at most four bytes, over all bytes of formulas and a few others, and those of five in brackets.
func TestP17ShortTexts(t *testing.T) {
	formulas := map[string]bool{}
	for _, x := range builtSmall() {
		formulas[x.text] = true
		for range 3 {
			x = builtNot(x)
			formulas[x.text] = true
		}
	}
	const bytes = "abc01!()>+*&|d2- \n\x00\xff"
	texts := []string{""}
	for length := 0; length <= 4; length++ {
		var longer []string
		for _, s := range texts {
			checkFormula(t, s, formulas[s])
			if len(s) == 3 {
				checkFormula(t, "("+s+")", formulas["("+s+")"])
			}
			for i := range len(bytes) {
				longer = append(longer, s+bytes[i:i+1])
			}
		}
		texts = longer
	}
}

// checkNear checks all texts that differ from a formula by one byte, which is another one, one more, or one less.
func checkNear(t *testing.T, s string) {
	t.Helper()
	for place := range len(s) + 1 {
		ahead, behind := s[:place], s[place:]
		for b := range 256 {
			more := ahead + string([]byte{byte(b)}) + behind
			checkFormula(t, more, shrinksToFormula(more))
			if behind != "" {
				other := ahead + string([]byte{byte(b)}) + behind[1:]
				checkFormula(t, other, shrinksToFormula(other))
			}
		}
		if behind != "" {
			checkFormula(t, ahead+behind[1:], shrinksToFormula(ahead+behind[1:]))
		}
	}
}

func TestP17OneByteApart(t *testing.T) {
	for _, s := range []string{"a", "1", "!b", "(a>b)", "!(a+0)", "(!a*!b)", "((a>b)&c)", "(c|!(b>1))", "((!a>!b)>(b>a))"} {
		checkNear(t, s)
	}
	checkNear(t, "((!(a>b)+(b*c))>((a&(b|0))>((1>c)>(!!a*(b+(c>(b&a)))))))")
}

func TestP17BracketsMustBeClosed(t *testing.T) {
	for times := 1; times <= 14; times++ {
		for closed := 0; closed <= 2*times; closed++ {
			checkFormula(t, strings.Repeat("(a>", times)+"b"+strings.Repeat(")", closed), closed == times)
			checkFormula(t, strings.Repeat("(", closed)+"b"+strings.Repeat("|a)", times), closed == times)
		}
	}
}

func TestP17OfMaxFormulaBytes(t *testing.T) {
	for bytes := 1; bytes <= 200; bytes++ {
		checkFormula(t, strings.Repeat("!", bytes-1)+"c", bytes <= 60)
		if bytes >= 5 {
			checkFormula(t, "("+strings.Repeat("!", bytes-5)+"0*1)", bytes <= 60)
			checkFormula(t, "(b&"+strings.Repeat("!", bytes-5)+"a)", bytes <= 60)
		}
	}
	for place := range signMarks {
		deep := deepOf(place, 14, true, builtAtoms[0]).text
		checkFormula(t, "!!!"+deep, true)
		checkFormula(t, "!!!!"+deep, false)
		deep = deepOf(place, 14, false, builtAtoms[4]).text
		checkFormula(t, "!!!"+deep, true)
		checkFormula(t, "!!!!"+deep, false)
	}
}

// P18: Longer chains tell the same.
func TestP18ValuesByHand(t *testing.T) {
	for _, x := range []struct {
		steps   int
		s       string
		a, b, c int
		want    int
	}{
		{1, "0", 0, 0, 0, 0}, {1, "1", 0, 0, 0, 1}, {6, "0", 6, 6, 6, 0}, {6, "1", 0, 0, 0, 6},
		{4, "a", 3, 1, 0, 3}, {4, "b", 3, 1, 0, 1}, {4, "c", 3, 1, 0, 0}, {4, "!a", 3, 1, 0, 1}, {4, "!!a", 3, 1, 0, 3},
		{4, "(a>b)", 3, 1, 0, 2}, {4, "(b>a)", 3, 1, 0, 4}, {4, "(a+b)", 3, 2, 0, 4}, {4, "(a+b)", 1, 2, 0, 3},
		{4, "(a*b)", 3, 2, 0, 1}, {4, "(a*b)", 2, 2, 0, 0}, {4, "(a&b)", 3, 2, 0, 2}, {4, "(a|b)", 3, 2, 0, 3},
		{4, "((a*b)|!c)", 3, 2, 1, 3}, {4, "((a*b)|!c)", 3, 2, 4, 1}, {4, "(a*(b|!c))", 3, 2, 1, 2},
		{5, "((a>b)>c)", 4, 2, 1, 3}, {5, "(a>(b>c))", 4, 2, 1, 5}, {5, "!(a>b)", 4, 2, 1, 2}, {5, "(!a>b)", 4, 2, 1, 5},
		{3, "(a>(a*a))", 2, 0, 0, 2}, {3, "(a|!a)", 1, 0, 0, 2}, {3, "(a&!a)", 1, 0, 0, 1}, {3, "(a+!a)", 1, 0, 0, 3}, {3, "(a*!a)", 1, 0, 0, 0},
		{1, "((a*b)|!c)", 1, 0, 1, 0}, {1, "((a*b)|!c)", 1, 1, 1, 1}, {1, "(a>0)", 1, 0, 0, 0},
		{6, strings.Repeat("!", 59) + "a", 2, 0, 0, 4}, {6, strings.Repeat("!", 58) + "a", 2, 0, 0, 2},
		{6, "!!!" + strings.Repeat("(b*", 14) + "a" + strings.Repeat(")", 14), 3, 6, 0, 3},
	} {
		if got := impl.ValueAt(x.steps, x.s, x.a, x.b, x.c); got != x.want {
			t.Errorf("ValueAt(%d, %q, %d, %d, %d) is %d, not %d", x.steps, x.s, x.a, x.b, x.c, got, x.want)
		}
	}
}

func TestP18ValuesOfBuilt(t *testing.T) {
	for _, x := range append(builtSmall(), builtOfAllLengths(builtAtoms, 3)...) {
		checkValues(t, x)
	}
}

func TestP18AreValues(t *testing.T) {
	for _, x := range builtOfAllLengths(builtAtoms, 2) {
		eachTriple(func(steps, a, b, c int) {
			if v := impl.ValueAt(steps, x.text, a, b, c); !impl.ValueOk(steps, v) {
				t.Errorf("ValueAt(%d, %q, %d, %d, %d) is %d", steps, x.text, a, b, c, v)
			}
		})
	}
}

func TestP18TwiceTheSteps(t *testing.T) {
	for _, x := range append(builtSmall(), builtOfAllLengths(builtAtoms, 3)...) {
		eachTriple(func(steps, a, b, c int) {
			if 2*steps > impl.MaxSteps {
				return
			}
			once, twice := impl.ValueAt(steps, x.text, a, b, c), impl.ValueAt(2*steps, x.text, 2*a, 2*b, 2*c)
			if twice != 2*once {
				t.Errorf("%q for %d, %d, %d of %d is %d, but for twice as many %d", x.text, a, b, c, steps, once, twice)
			}
		})
	}
}

func TestP18TrueAndFalseAlone(t *testing.T) {
	number := map[bool]int{true: 1}
	for _, x := range append(builtSmall(), builtOfAllLengths(builtAtoms, 20)...) {
		for bits := range 8 {
			a, b, c := bits&1 != 0, bits&2 != 0, bits&4 != 0
			want := number[x.truth(a, b, c)]
			if got := impl.ValueAt(1, x.text, number[a], number[b], number[c]); got != want {
				t.Errorf("ValueAt(1, %q, %v, %v, %v) is %d, not %d", x.text, a, b, c, got, want)
			}
		}
	}
}

func TestP18OthersHaveNoValue(t *testing.T) {
	eachNoFormula(func(s string) {
		for _, steps := range []int{-1, 0, 1, 2, 6, 7} {
			if got := impl.ValueAt(steps, s, 0, 0, 0); got != -1 {
				t.Errorf("ValueAt(%d, %q, 0, 0, 0) is %d", steps, shown(s), got)
			}
		}
	})
}

// A letter must have a value even where it does not stand in the formula.
func TestP18OtherNumbersAreNoValues(t *testing.T) {
	refuse := func(steps, a, b, c int) {
		for _, s := range []string{"a", "b", "c", "0", "1", "!a", "(0>0)", "(a>b)", "(c*0)", "((a+b)|c)"} {
			if got := impl.ValueAt(steps, s, a, b, c); got != -1 {
				t.Errorf("ValueAt(%d, %q, %d, %d, %d) is %d", steps, s, a, b, c, got)
			}
		}
	}
	eachNoValue(func(steps, v int) {
		for _, w := range []int{0, 1, steps, v, math.MinInt, math.MaxInt} {
			refuse(steps, v, w, w)
			refuse(steps, w, v, w)
			refuse(steps, w, w, v)
		}
	})
}

// P19: Following and false are enough.
func TestP19BasicByHand(t *testing.T) {
	for s, want := range map[string]string{
		"a": "a", "b": "b", "c": "c", "0": "0", "1": "(0>0)", "!a": "(a>0)", "!0": "(0>0)", "!1": "((0>0)>0)", "!!b": "((b>0)>0)",
		"(a>b)": "(a>b)", "(a+b)": "((a>0)>b)", "(a*b)": "((a>(b>0))>0)", "(a&b)": "((a>((a>b)>0))>0)", "(a|b)": "((a>b)>b)",
		"(!a+1)": "(((a>0)>0)>(0>0))", "(1>1)": "((0>0)>(0>0))", "((a>b)>c)": "((a>b)>c)", "(a>(b>c))": "(a>(b>c))",
		"((a|b)|c)": "((((a>b)>b)>c)>c)", "(a|(b|c))": "((a>((b>c)>c))>((b>c)>c))", "((a+b)*c)": "((((a>0)>b)>(c>0))>0)",
		"(a&!b)": "((a>((a>(b>0))>0))>0)", "!(c&c)": "(((c>((c>c)>0))>0)>0)",
	} {
		if got, ok := impl.BasicOf(s); got != want || !ok {
			t.Errorf("BasicOf(%q) is %q, %v, not %q", s, got, ok, want)
		}
	}
}

func TestP19BasicOfBuilt(t *testing.T) {
	for _, x := range append(builtSmall(), builtOfAllLengths(builtAtoms, 40)...) {
		checkBasic(t, x)
	}
}

func TestP19OfLettersAndFollowingAlone(t *testing.T) {
	told := 0
	for _, x := range append(builtSmall(), builtOfAllLengths(builtAtoms, 3)...) {
		basic, ok := impl.BasicOf(x.text)
		if !ok {
			continue
		}
		told++
		if !impl.FormulaOk(basic) || strings.Trim(basic, "abc()>0") != "" {
			t.Errorf("BasicOf(%q) is %q", x.text, basic)
		}
		if again, ok := impl.BasicOf(basic); again != basic || !ok {
			t.Errorf("BasicOf(%q) is %q, and of this %q, %v", x.text, basic, again, ok)
		}
		eachTriple(func(steps, a, b, c int) {
			if got, want := impl.ValueAt(steps, basic, a, b, c), impl.ValueAt(steps, x.text, a, b, c); got != want {
				t.Errorf("%q for %d, %d, %d of %d is %d, but written %q %d", x.text, a, b, c, steps, want, basic, got)
			}
		})
	}
	if told < 150 {
		t.Errorf("just %d formulas could be written so", told)
	}
}

// Written so, a formula of n letters and noughts has 4n-3 bytes: those of 57 are not too long, those of 61 are.
func TestP19JustTooLong(t *testing.T) {
	lengths := map[int]int{}
	for _, x := range builtOfAllLengths(builtAtoms, 200) {
		lengths[len(x.basic)]++
		checkBasic(t, x)
	}
	if lengths[57] == 0 || lengths[61] == 0 {
		t.Errorf("%d formulas of 57 bytes, %d of 61", lengths[57], lengths[61])
	}
	for bangs := 0; bangs <= 59; bangs++ {
		s, want := strings.Repeat("!", bangs)+"a", strings.Repeat("(", bangs)+"a"+strings.Repeat(">0)", bangs)
		if bangs > 14 {
			want = ""
		}
		if got, ok := impl.BasicOf(s); got != want || ok != (bangs <= 14) {
			t.Errorf("BasicOf(%q) is %q, %v", s, got, ok)
		}
	}
}

// Greater ones double what is behind, and lesser ones what is ahead: written so they have thousands of bytes.
func TestP19FarTooLong(t *testing.T) {
	longest := 0
	for place := range signMarks {
		for times := 0; times <= 14; times++ {
			for _, atom := range builtAtoms {
				for _, ahead := range []bool{true, false} {
					x := deepOf(place, times, ahead, atom)
					longest = max(longest, len(x.basic))
					checkBasic(t, x)
					checkBasic(t, builtNot(x))
				}
			}
		}
	}
	if longest < 1<<15 {
		t.Errorf("at most %d bytes", longest)
	}
}

func TestP19OthersAreNotWritten(t *testing.T) {
	eachNoFormula(func(s string) {
		if got, ok := impl.BasicOf(s); got != "" || ok {
			t.Errorf("BasicOf(%q) is %q, %v", shown(s), shown(got), ok)
		}
	})
}

// P20: Letters are in parts.
func TestP20LettersByHand(t *testing.T) {
	for s, want := range map[string]int{
		"a": 1, "b": 1, "c": 1, "0": 0, "1": 0, "!a": 1, "!1": 0, "(a>b)": 2, "(a>a)": 2, "(a*0)": 1, "(1|c)": 1, "(0>1)": 0,
		"(a>(b+a))": 3, "((a&b)|(b*c))": 4, "!(!a+!!0)": 1, "((a>b)>((b>c)>(a>c)))": 6, "(((a>b)>b)>((b>a)>a))": 6,
		strings.Repeat("!", 59) + "c": 1, strings.Repeat("!", 59) + "0": 0,
		"!!!" + strings.Repeat("(b*", 14) + "a" + strings.Repeat(")", 14): 15,
	} {
		checkLetters(t, s, want)
	}
}

func TestP20LettersOfBuilt(t *testing.T) {
	for _, x := range append(builtSmall(), builtOfAllLengths(builtAtoms, 40)...) {
		checkLetters(t, x.text, x.letters)
	}
}

func TestP20TwiceAsMany(t *testing.T) {
	for _, x := range append(builtSmall(), builtOfAllLengths(builtAtoms, 20)...) {
		twice := "(" + x.text + ">" + x.text + ")"
		want := 2 * impl.LettersIn(x.text)
		if len(twice) > 60 {
			want = -1
		}
		checkLetters(t, twice, want)
	}
}

func TestP20WithoutLettersOneValue(t *testing.T) {
	for _, x := range append(builtOfAllLengths(builtAtoms[3:], 2), builtAtoms[3:]...) {
		checkLetters(t, x.text, 0)
		eachTriple(func(steps, a, b, c int) {
			if got, want := impl.ValueAt(steps, x.text, a, b, c), impl.ValueAt(steps, x.text, 0, 0, 0); got != want || want < 0 {
				t.Errorf("ValueAt(%d, %q, %d, %d, %d) is %d, but for 0 %d", steps, x.text, a, b, c, got, want)
			}
		})
	}
}

func TestP20OthersHaveNoLetters(t *testing.T) {
	eachNoFormula(func(s string) { checkLetters(t, s, -1) })
}
