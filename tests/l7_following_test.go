package tests

import (
	"math"
	"math/rand"
	"slices"
	"strings"
	"testing"

	"loop.example/manyvalues/impl"
)

// followsByHand tells, of premises and a formula, in which chains the formula follows of them.
var followsByHand = []struct {
	list   []string
	s      string
	chains []int
}{
	{nil, "1", allChains}, {nil, "0", nil}, {nil, "a", nil}, {nil, "(a>a)", allChains}, {nil, "(a|!a)", []int{1}}, {nil, "((a*a)>((a*a)*a))", []int{1, 2}},
	{[]string{"1"}, "1", allChains}, {[]string{"1"}, "a", nil}, {[]string{"1", "1", "1"}, "(c|!c)", []int{1}},
	{[]string{"a"}, "a", allChains}, {[]string{"b"}, "b", allChains}, {[]string{"c"}, "c", allChains}, {[]string{"a"}, "b", nil}, {[]string{"a"}, "c", nil}, {[]string{"b"}, "c", nil},
	{[]string{"a"}, "0", nil}, {[]string{"a"}, "1", allChains}, {[]string{"a"}, "!a", nil}, {[]string{"a"}, "!!a", allChains}, {[]string{"!a"}, "(a>b)", allChains},
	{[]string{"a"}, "(a*a)", allChains}, {[]string{"a"}, "(a|b)", allChains}, {[]string{"a"}, "(a&b)", nil}, {[]string{"a"}, "(b>a)", allChains}, {[]string{"a"}, "(a>b)", nil},
	{[]string{"a", "(a>b)"}, "b", allChains}, {[]string{"(a>b)", "a"}, "b", allChains}, {[]string{"(a>b)"}, "b", nil}, {[]string{"b", "(a>b)"}, "a", nil},
	{[]string{"(a>b)", "(b>c)"}, "(a>c)", allChains}, {[]string{"(a>b)", "(b>c)"}, "(c>a)", nil}, {[]string{"a", "(a>b)", "(b>c)"}, "c", allChains}, {[]string{"(a>b)", "(b>c)"}, "c", nil},
	{[]string{"a", "b"}, "(a*b)", allChains}, {[]string{"a", "b"}, "c", nil}, {[]string{"a", "b", "c"}, "(a*(b*c))", allChains}, {[]string{"c", "b"}, "(a*(b*c))", nil},
	{[]string{"(a*b)"}, "(a&b)", allChains}, {[]string{"(a&b)"}, "(a*b)", allChains}, {[]string{"(a|b)"}, "(a+b)", allChains}, {[]string{"(a+b)"}, "(a|b)", []int{1}},
	{[]string{"(a|b)"}, "(a+a)", nil}, {[]string{"(a+a)"}, "a", []int{1}}, {[]string{"!(a*a)"}, "!a", []int{1}}, {[]string{"(a|!a)"}, "(b|!b)", []int{1}},
	{[]string{"(a|b)", "(a>c)", "(b>c)"}, "c", allChains}, {[]string{"(a+b)", "(a>c)", "(b>c)"}, "c", []int{1}}, {[]string{"(a|b)", "(a>c)"}, "c", nil},
	{[]string{"(a|b)", "!a"}, "b", allChains}, {[]string{"(a+b)", "!a"}, "b", allChains}, {[]string{"(a>b)", "!b"}, "!a", allChains}, {[]string{"((a>b)>b)", "(b>a)"}, "a", allChains},
	{[]string{"(a|!a)"}, "(a>(a*a))", allChains}, {[]string{"(a>(a*a))"}, "(a|!a)", allChains},
	{[]string{"(a>!a)", "(!a>a)"}, "0", []int{1, 3, 5}}, {[]string{"(a>!a)", "(!a>a)"}, "(b|!b)", []int{1, 3, 5}}, {[]string{"(a>!a)", "(!a>a)"}, "(a+a)", allChains},
	{[]string{"0"}, "a", allChains}, {[]string{"0"}, "0", allChains}, {[]string{"a", "!a"}, "b", allChains}, {[]string{"(a&!a)"}, "0", allChains}, {[]string{"a", "b", "!b"}, "!a", allChains},
	{[]string{strings.Repeat("!", 59) + "a"}, "!a", allChains}, {[]string{"!a"}, strings.Repeat("!", 59) + "a", allChains}, {[]string{strings.Repeat("!", 59) + "a"}, "a", nil},
}

// trueByHand has, for premises, for how many values of the letters they are all true, for the chains from one step to six.
var trueByHand = []struct {
	list   []string
	counts []int
}{
	{nil, []int{8, 27, 64, 125, 216, 343}}, {[]string{"1"}, []int{8, 27, 64, 125, 216, 343}}, {[]string{"(c>c)", "1", "!0"}, []int{8, 27, 64, 125, 216, 343}},
	{[]string{"a"}, []int{4, 9, 16, 25, 36, 49}}, {[]string{"b"}, []int{4, 9, 16, 25, 36, 49}}, {[]string{"c"}, []int{4, 9, 16, 25, 36, 49}}, {[]string{"!c"}, []int{4, 9, 16, 25, 36, 49}},
	{[]string{"a", "b"}, []int{2, 3, 4, 5, 6, 7}}, {[]string{"a", "!c"}, []int{2, 3, 4, 5, 6, 7}}, {[]string{"a", "b", "c"}, []int{1, 1, 1, 1, 1, 1}}, {[]string{"(a*(b*c))"}, []int{1, 1, 1, 1, 1, 1}},
	{[]string{"a", "a"}, []int{4, 9, 16, 25, 36, 49}}, {[]string{"a", "a", "a"}, []int{4, 9, 16, 25, 36, 49}}, {[]string{"b", "a", "b"}, []int{2, 3, 4, 5, 6, 7}},
	{[]string{"(a>b)"}, []int{6, 18, 40, 75, 126, 196}}, {[]string{"(a>b)", "(b>c)"}, []int{4, 10, 20, 35, 56, 84}}, {[]string{"(a>b)", "(b>c)", "(c>a)"}, []int{2, 3, 4, 5, 6, 7}},
	{[]string{"(a+a)"}, []int{4, 18, 32, 75, 108, 196}}, {[]string{"(a|!a)"}, []int{8, 18, 32, 50, 72, 98}}, {[]string{"(a|(b|c))"}, []int{7, 19, 37, 61, 91, 127}},
	{[]string{"(a>!a)", "(!a>a)"}, []int{0, 9, 0, 25, 0, 49}}, {[]string{"0"}, []int{0, 0, 0, 0, 0, 0}}, {[]string{"(a&!a)"}, []int{0, 0, 0, 0, 0, 0}}, {[]string{"a", "b", "!a"}, []int{0, 0, 0, 0, 0, 0}},
	{[]string{strings.Repeat("!", 59) + "a"}, []int{4, 9, 16, 25, 36, 49}},
}

// neverTrue has premises that are true together for no values, in any chain.
var neverTrue = [][]string{{"0"}, {"!1"}, {"(a&!a)"}, {"(b*!b)"}, {"a", "!a"}, {"!c", "c"}, {"a", "(a>b)", "!b"}, {"1", "1", "0"}, {"(a>b)", "a", "(b>0)"}, {"0", "0", "0"}}

// noTimes are numbers of times that PowerText refuses.
var noTimes = []int{math.MinInt, math.MinInt + 1, math.MinInt32, -9, -2, -1, 0, 10, 11, 18, 64, 256, 257, 1 << 32, 1<<32 + 1, 1 << 62, math.MaxInt - 1, math.MaxInt}

// textsOf returns the texts of built formulas.
func textsOf(list []built) []string {
	var texts []string
	for _, x := range list {
		texts = append(texts, x.text)
	}
	return texts
}

// builtLists returns lists of premises, and one formula for each, always the same ones: of none up to three premises.
func builtLists() ([][]built, []built) {
	source := rand.New(rand.NewSource(7))
	some := append(builtSmall(), builtOfAllLengths(builtAtoms, 2)...)
	some = append(some, builtLaws(builtAtoms[0], builtAtoms[1])...)
	pick := func() built { return some[source.Intn(len(some))] }
	var lists [][]built
	var formulas []built
	for i := range 300 {
		var list []built
		for range i % 4 {
			list = append(list, pick())
		}
		lists, formulas = append(lists, list), append(formulas, pick())
	}
	return lists, formulas
}

// whereTrue tells, in the order of eachTripleOf, for which values of the letters all built formulas are true.
func whereTrue(steps int, list []built) []bool {
	var where []bool
	eachTripleOf(steps, func(a, b, c int) {
		where = append(where, !slices.ContainsFunc(list, func(x built) bool { return x.value(steps, a, b, c) != steps }))
	})
	return where
}

// followsOfBuilt tells, by their values alone, whether a built formula follows of built premises.
func followsOfBuilt(steps int, list []built, s built) bool {
	premises, formula := whereTrue(steps, list), whereTrue(steps, []built{s})
	for i := range premises {
		if premises[i] && !formula[i] {
			return false
		}
	}
	return true
}

// ofBytes returns a formula of so many bytes.
func ofBytes(bytes int) string {
	return strings.Repeat("!", bytes-1) + "b"
}

// powerByHand returns a text taken together with itself, however long.
func powerByHand(s string, times int) string {
	return strings.Repeat("("+s+"*", times-1) + s + strings.Repeat(")", times-1)
}

// deducedByHand returns the text which tells that t follows of s as often as there are steps, however long.
func deducedByHand(steps int, s, t string) string {
	return "(" + powerByHand(s, steps) + ">" + t + ")"
}

// eachNoPremises calls a function for lists that are no premises: they are too many, or one of them is no formula.
func eachNoPremises(check func(list []string)) {
	for _, s := range []string{"a", "1", "0", "(a>b)"} {
		for _, many := range []int{4, 5, 6, 8, 256, 257, 65536, 65536 + 1, 1 << 20} {
			check(slices.Repeat([]string{s}, many))
		}
	}
	check([]string{"a", "b", "c", "(a>b)"})
	check([]string{"a", "a", "a", "d"})
	check([]string{"d", "a", "a", "a"})
	eachNoFormula(func(s string) {
		for _, list := range [][]string{{s}, {s, "a"}, {"a", s}, {s, "0", "0"}, {"0", s, "0"}, {"0", "0", s}, {"1", "1", s}, {s, s}, {s, s, s}, {"a", "b", "c", s}} {
			check(list)
		}
	})
}

// checkPremises checks PremisesOk.
func checkPremises(t *testing.T, list []string, want bool) {
	t.Helper()
	if got := impl.PremisesOk(list); got != want {
		t.Errorf("PremisesOk of %d, %v, is %v", len(list), shownList(list), got)
	}
}

// checkFollowsFrom checks FollowsFrom.
func checkFollowsFrom(t *testing.T, steps int, list []string, s string, want bool) {
	t.Helper()
	if got := impl.FollowsFrom(steps, list, s); got != want {
		t.Errorf("FollowsFrom(%d, %v, %q) is %v", steps, shownList(list), shown(s), got)
	}
}

// checkTrue checks CountTrue.
func checkTrue(t *testing.T, steps int, list []string, want int) {
	t.Helper()
	if got := impl.CountTrue(steps, list); got != want {
		t.Errorf("CountTrue(%d, %v) is %d, not %d", steps, shownList(list), got, want)
	}
}

// checkPower checks PowerText: want is empty if there is no such formula.
func checkPower(t *testing.T, s string, times int, want string) {
	t.Helper()
	if got, ok := impl.PowerText(s, times); got != want || ok != (want != "") {
		t.Errorf("PowerText(%q, %d) is %q, %v, not %q", shown(s), times, shown(got), ok, want)
	}
}

// checkDeduced checks DeducedOf: want is empty if there is no such formula.
func checkDeduced(t *testing.T, steps int, s, u, want string) {
	t.Helper()
	if got, ok := impl.DeducedOf(steps, s, u); got != want || ok != (want != "") {
		t.Errorf("DeducedOf(%d, %q, %q) is %q, %v, not %q", steps, shown(s), shown(u), shown(got), ok, want)
	}
}

// shownList returns a list for a message, which is short.
func shownList(list []string) []string {
	var texts []string
	for _, s := range list[:min(len(list), 5)] {
		texts = append(texts, shown(s))
	}
	return texts
}

// cutToFormula returns a text, "" if it is too long for a formula.
func cutToFormula(s string) string {
	if len(s) > 60 {
		return ""
	}
	return s
}

func TestMaxPremises(t *testing.T) {
	if impl.MaxPremises != 3 {
		t.Errorf("MaxPremises is %d", impl.MaxPremises)
	}
}

// P32: Premises follow of premises.
func TestP32FollowsByHand(t *testing.T) {
	for _, x := range followsByHand {
		for _, steps := range allChains {
			checkFollowsFrom(t, steps, x.list, x.s, slices.Contains(x.chains, steps))
		}
	}
}

func TestP32FollowsOfBuilt(t *testing.T) {
	follows, others := 0, 0
	lists, formulas := builtLists()
	for i, list := range lists {
		for _, steps := range allChains {
			want := followsOfBuilt(steps, list, formulas[i])
			checkFollowsFrom(t, steps, textsOf(list), formulas[i].text, want)
			if want {
				follows++
			} else {
				others++
			}
		}
	}
	if follows < 100 || others < 100 {
		t.Errorf("%d times it follows, and %d times not", follows, others)
	}
}

func TestP32EachPremiseFollows(t *testing.T) {
	lists, _ := builtLists()
	for _, list := range lists {
		for _, x := range list {
			for _, steps := range allChains {
				checkFollowsFrom(t, steps, textsOf(list), x.text, true)
			}
		}
	}
}

func TestP32WithoutPremisesWhatAlwaysHolds(t *testing.T) {
	for _, x := range builtMany() {
		for _, steps := range allChains {
			always := impl.AlwaysOk(steps, x.text)
			for _, list := range [][]string{nil, {}, {"1"}, {"1", "1", "1"}} {
				checkFollowsFrom(t, steps, list, x.text, always)
			}
		}
	}
}

// withoutEach calls a function for a list without each one of its premises.
func withoutEach(list []string, check func(fewer []string)) {
	for i := range list {
		check(slices.Delete(slices.Clone(list), i, i+1))
	}
}

func TestP32WithFewerNoMoreFollows(t *testing.T) {
	less := 0
	lists, formulas := builtLists()
	for i, x := range lists {
		list := textsOf(x)
		for _, steps := range allChains {
			follows := impl.FollowsFrom(steps, list, formulas[i].text)
			withoutEach(list, func(fewer []string) {
				followsOfFewer := impl.FollowsFrom(steps, fewer, formulas[i].text)
				if followsOfFewer && !follows {
					t.Errorf("chain of %d steps: %q follows of %q, but not of %q", steps, formulas[i].text, fewer, list)
				}
				if follows && !followsOfFewer {
					less++
				}
			})
		}
	}
	if less == 0 {
		t.Error("all follows of fewer premises too")
	}
}

func TestP32InAnyOrderAndTwice(t *testing.T) {
	for _, x := range followsByHand {
		for _, steps := range allChains {
			want := slices.Contains(x.chains, steps)
			list := slices.Clone(x.list)
			slices.Reverse(list)
			checkFollowsFrom(t, steps, list, x.s, want)
			switch len(list) {
			case 1:
				checkFollowsFrom(t, steps, []string{list[0], list[0]}, x.s, want)
				checkFollowsFrom(t, steps, []string{list[0], list[0], list[0]}, x.s, want)
			case 2:
				checkFollowsFrom(t, steps, []string{list[0], list[1], list[0]}, x.s, want)
				checkFollowsFrom(t, steps, []string{list[0], list[0], list[1]}, x.s, want)
				checkFollowsFrom(t, steps, []string{list[1], list[0], list[0]}, x.s, want)
			case 3:
				checkFollowsFrom(t, steps, []string{list[1], list[2], list[0]}, x.s, want)
				checkFollowsFrom(t, steps, []string{list[1], list[0], list[2]}, x.s, want)
			}
		}
	}
}

func TestP32OfOthersNothingFollows(t *testing.T) {
	eachNoPremises(func(list []string) {
		for _, steps := range []int{1, 2, 6, 7} {
			checkFollowsFrom(t, steps, list, "1", false)
			checkFollowsFrom(t, steps, list, list[0], false)
		}
	})
}

// Of premises that are never true all formulas follow, but nothing else.
func TestP32OthersDoNotFollow(t *testing.T) {
	eachBadChain(func(steps int, s string) {
		for _, list := range [][]string{nil, {}, {"a"}, {"0"}, {"a", "!a"}, {"0", "0", "0"}} {
			checkFollowsFrom(t, steps, list, s, false)
		}
		checkFollowsFrom(t, steps, []string{s}, s, false)
		checkFollowsFrom(t, steps, []string{s}, "1", false)
	})
}

// handedOut is a list with room behind its end, which no function may write to.
func handedOut(list []string) []string {
	whole := append(slices.Clone(list), "behind", "", "b>")
	return whole[:len(list):len(whole)]
}

func TestP32ListsStayAsTheyAre(t *testing.T) {
	for _, list := range [][]string{{}, {"a"}, {"(a>b)", "a"}, {"c", "(b>c)", "a"}, {"a", "a", "a"}, {"a", "b", "c", "1"}, {"b>", "a"}, {""}, {"c", "d", "a"}} {
		for _, steps := range []int{-1, 0, 1, 3, 6, 7} {
			handed := handedOut(list)
			before := slices.Clone(handed[:cap(handed)])
			impl.PremisesOk(handed)
			impl.FollowsFrom(steps, handed, "b")
			impl.FollowsFrom(steps, handed, "(a>a)")
			impl.FollowsFrom(steps, handed, "a>")
			impl.CountTrue(steps, handed)
			if after := handed[:cap(handed)]; !slices.Equal(after, before) {
				t.Errorf("%q has become %q", before, after)
			}
		}
	}
}

// P33: Of what is never true all follows.
func TestP33TrueByHand(t *testing.T) {
	for _, x := range trueByHand {
		for i, want := range x.counts {
			checkTrue(t, i+1, x.list, want)
		}
	}
}

func TestP33TrueOfBuilt(t *testing.T) {
	lists, _ := builtLists()
	for _, list := range lists {
		for _, steps := range allChains {
			want := 0
			for _, holds := range whereTrue(steps, list) {
				if holds {
					want++
				}
			}
			checkTrue(t, steps, textsOf(list), want)
		}
	}
}

func TestP33WithoutPremisesAllValues(t *testing.T) {
	for _, steps := range allChains {
		values := steps + 1
		checkTrue(t, steps, nil, values*values*values)
		checkTrue(t, steps, []string{}, values*values*values)
		checkTrue(t, steps, []string{"a", "b", "c"}[:0], values*values*values)
	}
}

func TestP33NoneExactlyIfFalseFollows(t *testing.T) {
	none, some := 0, 0
	lists, _ := builtLists()
	for _, list := range lists {
		for _, steps := range allChains {
			count := impl.CountTrue(steps, textsOf(list))
			checkFollowsFrom(t, steps, textsOf(list), "0", count == 0)
			if count == 0 {
				none++
			} else {
				some++
			}
		}
	}
	if none == 0 || some == 0 {
		t.Errorf("%d lists are never true, and %d are", none, some)
	}
}

func TestP33OfWhatIsNeverTrueAllFollows(t *testing.T) {
	for _, list := range neverTrue {
		for _, steps := range allChains {
			checkTrue(t, steps, list, 0)
			for _, x := range append(builtSmall(), builtOfAllLengths(builtAtoms, 1)...) {
				checkFollowsFrom(t, steps, list, x.text, true)
			}
		}
	}
}

// Premises that are true for one value alone are not premises that are never true.
func TestP33JustOneValue(t *testing.T) {
	for _, steps := range allChains {
		for _, list := range [][]string{{"a", "b", "c"}, {"!a", "b", "!c"}, {"!a", "!b", "!c"}, {"(a&(b&c))"}, {"(!a*(b*!c))"}} {
			checkTrue(t, steps, list, 1)
			checkFollowsFrom(t, steps, list, "0", false)
			checkFollowsFrom(t, steps, list, list[0], true)
		}
	}
}

func TestP33WithFewerNoLessValues(t *testing.T) {
	lists, _ := builtLists()
	for _, x := range lists {
		list := textsOf(x)
		for _, steps := range allChains {
			count := impl.CountTrue(steps, list)
			withoutEach(list, func(fewer []string) {
				if got := impl.CountTrue(steps, fewer); got < count {
					t.Errorf("chain of %d steps: %q are true for %d values, but %q for %d", steps, fewer, got, list, count)
				}
			})
		}
	}
}

func TestP33OthersAreNotCounted(t *testing.T) {
	eachNoPremises(func(list []string) {
		for _, steps := range []int{math.MinInt, 0, 1, 2, 6, 7, math.MaxInt} {
			checkTrue(t, steps, list, -1)
		}
	})
	for _, steps := range badSteps {
		for _, x := range trueByHand {
			checkTrue(t, steps, x.list, -1)
		}
	}
}

// P34: Powers of formulas have powers of values.
func TestP34PowersByHand(t *testing.T) {
	for _, x := range []struct {
		s     string
		times int
		want  string
	}{
		{"a", 1, "a"}, {"a", 2, "(a*a)"}, {"a", 3, "(a*(a*a))"}, {"a", 4, "(a*(a*(a*a)))"}, {"a", 9, "(a*(a*(a*(a*(a*(a*(a*(a*a))))))))"},
		{"0", 1, "0"}, {"1", 2, "(1*1)"}, {"!a", 3, "(!a*(!a*!a))"}, {"(a*a)", 1, "(a*a)"}, {"(a*a)", 2, "((a*a)*(a*a))"}, {"(a>b)", 3, "((a>b)*((a>b)*(a>b)))"},
		{"!(a|c)", 2, "(!(a|c)*!(a|c))"}, {"!!!b", 9, "(!!!b*(!!!b*(!!!b*(!!!b*(!!!b*(!!!b*(!!!b*(!!!b*!!!b))))))))"}, {"!!!!b", 9, ""}, {"(a>b)", 8, ""},
		{"(a>(b>a))", 5, "((a>(b>a))*((a>(b>a))*((a>(b>a))*((a>(b>a))*(a>(b>a))))))"}, {"(a>(b>a))", 6, ""},
	} {
		checkPower(t, x.s, x.times, x.want)
	}
}

// Powers of just MaxFormula bytes and of one more are among these.
func TestP34PowersOfAllLengths(t *testing.T) {
	just, over := 0, 0
	for bytes := 1; bytes <= 60; bytes++ {
		for times := 1; times <= 9; times++ {
			power := powerByHand(ofBytes(bytes), times)
			checkPower(t, ofBytes(bytes), times, cutToFormula(power))
			switch len(power) {
			case 60:
				just++
			case 61:
				over++
			}
		}
	}
	if just != 4 || over != 3 {
		t.Errorf("%d powers have just as many bytes as a formula may have, and %d one more", just, over)
	}
}

func TestP34OfMaxFormulaBytes(t *testing.T) {
	for _, x := range []struct{ bytes, times, length int }{{60, 1, 60}, {18, 3, 60}, {6, 7, 60}, {4, 9, 60}, {28, 2, 59}, {12, 4, 57}, {61, 1, 61}, {29, 2, 61}, {13, 4, 61}, {5, 8, 61}, {5, 9, 69}, {60, 2, 123}} {
		want := powerByHand(ofBytes(x.bytes), x.times)
		if len(want) != x.length {
			t.Fatalf("%q has %d bytes", want, len(want))
		}
		checkPower(t, ofBytes(x.bytes), x.times, cutToFormula(want))
	}
}

func TestP34ValuesArePowers(t *testing.T) {
	for _, x := range append(builtSmall(), builtOfAllLengths(builtAtoms, 1)...) {
		for times := 1; times <= 9; times++ {
			want := powerByHand(x.text, times)
			checkPower(t, x.text, times, cutToFormula(want))
			power, ok := impl.PowerText(x.text, times)
			if !ok {
				continue
			}
			eachTriple(func(steps, a, b, c int) {
				if got, want := impl.ValueAt(steps, power, a, b, c), impl.ManyTimes(steps, x.value(steps, a, b, c), times); got != want {
					t.Errorf("%q is %d for %d, %d, %d in the chain of %d steps, not %d", power, got, a, b, c, steps, want)
				}
			})
		}
	}
}

func TestP34PowersAreFormulas(t *testing.T) {
	for _, s := range formulasByHand {
		for times := 1; times <= 9; times++ {
			if power, ok := impl.PowerText(s, times); ok {
				checkFormula(t, power, true)
			}
		}
	}
}

func TestP34OtherTimesHaveNoPower(t *testing.T) {
	for _, times := range noTimes {
		for _, s := range []string{"a", "0", "1", "!a", "(a*b)", ofBytes(60), ofBytes(61), "", "a*"} {
			checkPower(t, s, times, "")
		}
	}
}

func TestP34OthersHaveNoPower(t *testing.T) {
	eachNoFormula(func(s string) {
		for _, times := range []int{math.MinInt, -1, 0, 1, 2, 3, 9, 10, math.MaxInt} {
			checkPower(t, s, times, "")
		}
	})
}

// P35: What follows is deduced.
func TestP35DeducedByHand(t *testing.T) {
	for _, x := range []struct {
		steps      int
		s, t, want string
	}{
		{1, "a", "b", "(a>b)"}, {2, "a", "b", "((a*a)>b)"}, {3, "a", "b", "((a*(a*a))>b)"}, {6, "a", "b", "((a*(a*(a*(a*(a*a)))))>b)"},
		{1, "0", "1", "(0>1)"}, {2, "b", "a", "((b*b)>a)"}, {2, "a", "(a*a)", "((a*a)>(a*a))"}, {1, "a", "a", "(a>a)"}, {2, "!a", "!!c", "((!a*!a)>!!c)"},
		{1, "(a>b)", "(b>a)", "((a>b)>(b>a))"}, {2, "(a>b)", "c", "(((a>b)*(a>b))>c)"}, {4, "(a|b)", "0", "(((a|b)*((a|b)*((a|b)*(a|b))))>0)"},
		{6, "(a>b)", "(a>b)", "(((a>b)*((a>b)*((a>b)*((a>b)*((a>b)*(a>b))))))>(a>b))"}, {6, "(a>b)", "((a>b)>(b>c))", ""},
		{6, "!(a>b)", "!(a>b)", "((!(a>b)*(!(a>b)*(!(a>b)*(!(a>b)*(!(a>b)*!(a>b))))))>!(a>b))"}, {6, "!(a>b)", "!!(a>b)", ""}, {6, "!!(a>b)", "1", ""},
	} {
		checkDeduced(t, x.steps, x.s, x.t, x.want)
	}
}

func TestP35DeducedOfAllLengths(t *testing.T) {
	just, over := map[int]int{}, map[int]int{}
	for _, steps := range allChains {
		for ahead := 1; ahead <= 60; ahead++ {
			for behind := 1; behind <= 60; behind++ {
				deduced := deducedByHand(steps, ofBytes(ahead), ofBytes(behind))
				checkDeduced(t, steps, ofBytes(ahead), ofBytes(behind), cutToFormula(deduced))
				switch len(deduced) {
				case 60:
					just[steps]++
				case 61:
					over[steps]++
				}
			}
		}
	}
	for _, steps := range allChains {
		if just[steps] == 0 || over[steps] == 0 {
			t.Errorf("chain of %d steps: %d of just as many bytes as a formula may have, and %d of one more", steps, just[steps], over[steps])
		}
	}
}

func TestP35DeducedAreFormulas(t *testing.T) {
	for _, steps := range allChains {
		for _, s := range formulasByHand {
			for _, u := range formulasByHand {
				checkDeduced(t, steps, s, u, cutToFormula(deducedByHand(steps, s, u)))
				if deduced, ok := impl.DeducedOf(steps, s, u); ok {
					checkFormula(t, deduced, true)
				}
			}
		}
	}
}

// checkDeduction checks that of premises the deduced formula follows exactly if u follows of them and of s, and tells whether it does, and whether it was short enough to be asked.
func checkDeduction(t *testing.T, steps int, list []string, s, u string) (bool, bool) {
	t.Helper()
	deduced, ok := impl.DeducedOf(steps, s, u)
	if !ok {
		return false, false
	}
	follows := impl.FollowsFrom(steps, append(slices.Clone(list), s), u)
	checkFollowsFrom(t, steps, list, deduced, follows)
	checkFollowsFrom(t, steps, append([]string{s}, list...), u, follows)
	return follows, true
}

func TestP35ExactlyWhatFollows(t *testing.T) {
	lists, formulas := builtLists()
	follows, others := 0, 0
	small := builtSmall()
	for i, x := range lists {
		list := textsOf(x)[:min(len(x), 2)]
		for j, s := range []built{formulas[i], small[i%len(small)], small[i*7%len(small)]} {
			u := small[(i*11+j*5)%len(small)]
			for _, steps := range allChains {
				switch yes, asked := checkDeduction(t, steps, list, s.text, u.text); {
				case !asked:
				case yes:
					follows++
				default:
					others++
				}
			}
		}
	}
	if follows < 100 || others < 100 {
		t.Errorf("%d times it follows, and %d times not", follows, others)
	}
}

func TestP35ExactlyWhatFollowsByHand(t *testing.T) {
	for _, x := range followsByHand {
		if len(x.list) == 0 {
			continue
		}
		last := len(x.list) - 1
		for _, steps := range allChains {
			if yes, asked := checkDeduction(t, steps, x.list[:last], x.list[last], x.s); asked && yes != slices.Contains(x.chains, steps) {
				t.Errorf("chain of %d steps: whether %q follows of %q is %v", steps, x.s, x.list, yes)
			}
		}
	}
}

func TestP35OnceIsNotEnough(t *testing.T) {
	for _, steps := range allChains {
		checkFollowsFrom(t, steps, []string{"a"}, "(a*a)", true)
		checkAlways(t, steps, "(a>(a*a))", steps == 1)
		deduced, ok := impl.DeducedOf(steps, "a", "(a*a)")
		if !ok {
			t.Errorf("DeducedOf(%d, a, (a*a)) is %q, %v", steps, deduced, ok)
		}
		checkAlways(t, steps, deduced, true)
	}
}

// Once less than there are steps is not enough either, and once more is not needed.
func TestP35AsOftenAsSteps(t *testing.T) {
	for steps := 2; steps <= 6; steps++ {
		whole, fewer := powerByHand("a", steps), powerByHand("a", steps-1)
		checkFollowsFrom(t, steps, []string{"a"}, whole, true)
		checkAlways(t, steps, "("+fewer+">"+whole+")", false)
		checkDeduced(t, steps, "a", whole, "("+whole+">"+whole+")")
		checkAlways(t, steps, "("+whole+">"+powerByHand("a", steps+1)+")", true)
	}
}

func TestP35OthersAreNotDeduced(t *testing.T) {
	for _, steps := range badSteps {
		for _, s := range []string{"a", "0", "1", "!a", "(a*b)", ""} {
			checkDeduced(t, steps, s, "b", "")
			checkDeduced(t, steps, "b", s, "")
		}
	}
	eachNoFormula(func(s string) {
		for _, steps := range []int{math.MinInt, -1, 0, 1, 2, 6, 7, math.MaxInt} {
			checkDeduced(t, steps, s, "a", "")
			checkDeduced(t, steps, "a", s, "")
			checkDeduced(t, steps, s, s, "")
		}
	})
}

// P63: There may be no premises.
func TestP63NoPremises(t *testing.T) {
	checkPremises(t, nil, true)
	checkPremises(t, []string{}, true)
	checkPremises(t, []string{"a", "d"}[:0], true)
	checkPremises(t, make([]string, 0, 9), true)
}

func TestP63WithoutTheFirst(t *testing.T) {
	lists, _ := builtLists()
	for _, x := range lists {
		list := textsOf(x)
		checkPremises(t, list, true)
		for len(list) > 0 {
			list = list[1:]
			checkPremises(t, list, true)
		}
	}
}

func TestP63PremisesByHand(t *testing.T) {
	for _, s := range formulasByHand {
		for many := range 6 {
			checkPremises(t, slices.Repeat([]string{s}, many), many <= 3)
		}
		checkPremises(t, []string{"(a>b)", s, "!c"}, true)
		checkPremises(t, []string{"(a>b)", s, "!c", "a"}, false)
	}
	checkPremises(t, []string{ofBytes(60), ofBytes(60), ofBytes(60)}, true)
	checkPremises(t, []string{ofBytes(60), ofBytes(60), ofBytes(61)}, false)
	for _, list := range neverTrue {
		checkPremises(t, list, true)
	}
}

func TestP63OthersAreNoPremises(t *testing.T) {
	eachNoPremises(func(list []string) { checkPremises(t, list, false) })
}
