package tests

import (
	"math"
	"slices"
	"strings"
	"testing"

	"loop.example/manyvalues/impl"
)

// allChains has the steps of all chains.
var allChains = []int{1, 2, 3, 4, 5, 6}

// axiomsByHand has the four axioms, in the order of their numbers.
var axiomsByHand = []string{"(a>(b>a))", "((a>b)>((b>c)>(a>c)))", "(((a>b)>b)>((b>a)>a))", "((!a>!b)>(b>a))"}

// badNumbers are numbers that no axiom has.
var badNumbers = []int{math.MinInt, math.MinInt + 1, math.MinInt32, -4, -3, -2, -1, 4, 5, 6, 7, 8, 256, 1 << 32, 1<<32 + 1, 1<<32 + 3, math.MaxInt - 1, math.MaxInt}

// chainsByHand tells, of formulas, in which chains they always hold.
var chainsByHand = map[string][]int{
	"0": nil, "1": allChains, "!0": allChains, "!1": nil, "(0>0)": allChains, "(1>0)": nil, "(1*1)": allChains, "(0+0)": nil, "(0|1)": allChains, "(0&1)": nil,
	"a": nil, "b": nil, "c": nil, "!a": nil, "!!a": nil, "(a>b)": nil, "(a+b)": nil, "(a*b)": nil, "(a&b)": nil, "(a|b)": nil, "(a&!a)": nil, "((a>b)>a)": nil,
	"(a>a)": allChains, "(a>(b>a))": allChains, "((a>b)>((b>c)>(a>c)))": allChains, "(((a>b)>b)>((b>a)>a))": allChains, "((!a>!b)>(b>a))": allChains,
	"(a+!a)": allChains, "!(a*!a)": allChains, "((a>b)|(b>a))": allChains, "((a>b)+(b>c))": allChains, "((a&!a)>(b|!b))": allChains, "(0>c)": allChains, "(c>1)": allChains,
	"(a|!a)": {1}, "!(a&!a)": {1}, "(b|!b)": {1}, "(c|!c)": {1}, "(a>(a*a))": {1}, "((a+a)>a)": {1}, "((a>(a>b))>(a>b))": {1}, "(((a>b)>a)>a)": {1}, "((a>b)|(b>c))": {1},
	"((a*a)>((a*a)*a))": {1, 2}, "(((a*a)*a)>(((a*a)*a)*a))": {1, 2, 3}, "((((a*a)*a)*a)>((((a*a)*a)*a)*a))": {1, 2, 3, 4},
	"(((((a*a)*a)*a)*a)>(((((a*a)*a)*a)*a)*a))":                       {1, 2, 3, 4, 5},
	"((((((a*a)*a)*a)*a)*a)>((((((a*a)*a)*a)*a)*a)*a))":               allChains,
	"!(((a>!a)*(!a>a))*(((a>!a)*(!a>a))*((a>!a)*(!a>a))))":            {1, 3},
	strings.Repeat("!", 59) + "0":                                     allChains,
	strings.Repeat("!", 59) + "1":                                     nil,
	strings.Repeat("!", 59) + "a":                                     nil,
	"(a>(" + strings.Repeat("!", 51) + "b>a))":                        allChains,
	"(a|(" + strings.Repeat("!", 51) + "a&a))":                        nil,
	"(a|(" + strings.Repeat("!", 51) + "a|0))":                        {1},
	"!!" + strings.Repeat("(b>", 14) + "!0" + strings.Repeat(")", 14): allChains,
	"!!" + strings.Repeat("(b>", 14) + "!1" + strings.Repeat(")", 14): nil,
}

// Places of signs in signMarks.
const (
	followsPlace = iota
	plusPlace
	timesPlace
	lesserPlace
	greaterPlace
)

// builtLaws returns formulas of two parts that may always hold, in all chains or in some, as far as they are not too long.
func builtLaws(x, y built) []built {
	xy, yx := builtPair(followsPlace, x, y), builtPair(followsPlace, y, x)
	twice := builtPair(timesPlace, x, x)
	var list []built
	for _, law := range []built{
		builtPair(followsPlace, x, yx),
		builtPair(greaterPlace, xy, yx),
		builtPair(greaterPlace, x, builtNot(x)),
		builtPair(plusPlace, y, builtNot(y)),
		builtPair(followsPlace, x, twice),
		builtPair(followsPlace, twice, builtPair(timesPlace, twice, x)),
		builtPair(followsPlace, builtPair(lesserPlace, x, y), builtPair(greaterPlace, x, y)),
		builtPair(followsPlace, builtPair(followsPlace, xy, x), x),
		builtPair(followsPlace, builtPair(followsPlace, xy, y), builtPair(followsPlace, yx, x)),
	} {
		if len(law.text) <= impl.MaxFormula {
			list = append(list, law)
		}
	}
	return list
}

// builtMany returns formulas of all lengths, and some that always hold in all chains, or in some.
func builtMany() []built {
	list := append(builtSmall(), builtOfAllLengths(builtAtoms, 2)...)
	parts := append(builtOfAllLengths(builtAtoms, 1)[:20], builtAtoms...)
	for i, x := range parts {
		list = append(list, builtLaws(x, parts[(i*7+3)%len(parts)])...)
	}
	return list
}

// eachTripleOf calls a function for each three values of one chain, by a, then by b, then by c.
func eachTripleOf(steps int, check func(a, b, c int)) {
	for a := 0; a <= steps; a++ {
		for b := 0; b <= steps; b++ {
			for c := 0; c <= steps; c++ {
				check(a, b, c)
			}
		}
	}
}

// valuesOf returns the values of a built formula in a chain, in the order of eachTripleOf.
func valuesOf(x built, steps int) []int {
	var list []int
	eachTripleOf(steps, func(a, b, c int) { list = append(list, x.value(steps, a, b, c)) })
	return list
}

// eachBadChain calls a function for texts that are no formulas, in chains and others, and for formulas where there is no chain.
func eachBadChain(check func(steps int, s string)) {
	eachNoFormula(func(s string) {
		for _, steps := range []int{math.MinInt, -1, 0, 1, 2, 6, 7, math.MaxInt} {
			check(steps, s)
		}
	})
	for _, steps := range badSteps {
		for s := range chainsByHand {
			check(steps, s)
		}
	}
}

// checkLeast checks LeastAt.
func checkLeast(t *testing.T, steps int, s string, want int) {
	t.Helper()
	if got := impl.LeastAt(steps, s); got != want {
		t.Errorf("LeastAt(%d, %q) is %d, not %d", steps, shown(s), got, want)
	}
}

// checkAlways checks AlwaysOk.
func checkAlways(t *testing.T, steps int, s string, want bool) {
	t.Helper()
	if got := impl.AlwaysOk(steps, s); got != want {
		t.Errorf("AlwaysOk(%d, %q) is %v", steps, shown(s), got)
	}
}

// checkAgainst checks AgainstOf: against are the values of a, b and c, none if nothing is against it.
func checkAgainst(t *testing.T, steps int, s string, against ...int) {
	t.Helper()
	want := []int{-1, -1, -1}
	if len(against) > 0 {
		want = against
	}
	a, b, c, ok := impl.AgainstOf(steps, s)
	if !slices.Equal([]int{a, b, c}, want) || ok != (len(against) > 0) {
		t.Errorf("AgainstOf(%d, %q) is %d, %d, %d, %v, not %v", steps, shown(s), a, b, c, ok, want)
	}
}

// checkSame checks SameAt, for both formulas exchanged too.
func checkSame(t *testing.T, steps int, x, y string, want bool) {
	t.Helper()
	if got := impl.SameAt(steps, x, y); got != want {
		t.Errorf("SameAt(%d, %q, %q) is %v", steps, shown(x), shown(y), got)
	}
	if got := impl.SameAt(steps, y, x); got != want {
		t.Errorf("SameAt(%d, %q, %q) is %v", steps, shown(y), shown(x), got)
	}
}

// checkChains checks ChainsFor.
func checkChains(t *testing.T, s string, want []int) {
	t.Helper()
	if got := impl.ChainsFor(s); !slices.Equal(got, want) {
		t.Errorf("ChainsFor(%q) is %v, not %v", shown(s), got, want)
	}
}

// P21: Least values are values.
func TestP21LeastByHand(t *testing.T) {
	for s, want := range map[string][]int{
		"0": {0, 0, 0, 0, 0, 0}, "1": {1, 2, 3, 4, 5, 6}, "!0": {1, 2, 3, 4, 5, 6}, "a": {0, 0, 0, 0, 0, 0}, "(a>b)": {0, 0, 0, 0, 0, 0},
		"(a>a)": {1, 2, 3, 4, 5, 6}, "((a>b)|(b>a))": {1, 2, 3, 4, 5, 6},
		"(a|!a)": {1, 1, 2, 2, 3, 3}, "(b|!b)": {1, 1, 2, 2, 3, 3}, "(c|!c)": {1, 1, 2, 2, 3, 3}, "((a|!a)&(b|!b))": {1, 1, 2, 2, 3, 3},
		"(a>(a*a))": {1, 1, 2, 2, 3, 3}, "((a>b)|(b>c))": {1, 1, 2, 2, 3, 3}, "((a|!a)*(b|!b))": {1, 0, 1, 0, 1, 0}, "((a*a)>((a*a)*a))": {1, 2, 2, 3, 4, 4},
		strings.Repeat("!", 59) + "0": {1, 2, 3, 4, 5, 6}, "(" + strings.Repeat("!", 55) + "a|a)": {1, 1, 2, 2, 3, 3},
	} {
		for i, least := range want {
			checkLeast(t, i+1, s, least)
		}
	}
}

func TestP21LeastOfBuilt(t *testing.T) {
	for _, x := range builtMany() {
		for _, steps := range allChains {
			checkLeast(t, steps, x.text, slices.Min(valuesOf(x, steps)))
		}
	}
}

func TestP21NoValueIsLess(t *testing.T) {
	for _, x := range append(builtSmall(), builtOfAllLengths(builtAtoms, 1)...) {
		for _, steps := range allChains {
			least, reached := impl.LeastAt(steps, x.text), false
			eachTripleOf(steps, func(a, b, c int) {
				v := impl.ValueAt(steps, x.text, a, b, c)
				reached = reached || v == least
				if v < least {
					t.Errorf("LeastAt(%d, %q) is %d, but for %d, %d, %d it is %d", steps, x.text, least, a, b, c, v)
				}
			})
			if !reached || !impl.ValueOk(steps, least) {
				t.Errorf("LeastAt(%d, %q) is %d, which is no value of it", steps, x.text, least)
			}
		}
	}
}

func TestP21TwiceTheSteps(t *testing.T) {
	less := 0
	for _, x := range builtMany() {
		for steps := 1; steps <= 3; steps++ {
			once, twice := impl.LeastAt(steps, x.text), impl.LeastAt(2*steps, x.text)
			if twice > 2*once {
				t.Errorf("%q is at least %d in the chain of %d steps, but %d in that of twice as many", x.text, once, steps, twice)
			}
			if twice < 2*once {
				less++
			}
		}
	}
	if less == 0 {
		t.Error("in chains of twice as many steps all least values are twice as much")
	}
}

func TestP21OthersHaveNoLeastValue(t *testing.T) {
	eachBadChain(func(steps int, s string) { checkLeast(t, steps, s, -1) })
}

// P22: What follows of what always holds always holds.
func TestP22AlwaysByHand(t *testing.T) {
	for s, chains := range chainsByHand {
		for _, steps := range allChains {
			checkAlways(t, steps, s, slices.Contains(chains, steps))
		}
	}
}

func TestP22AlwaysOfBuilt(t *testing.T) {
	for _, x := range builtMany() {
		for _, steps := range allChains {
			checkAlways(t, steps, x.text, slices.Min(valuesOf(x, steps)) == steps)
		}
	}
}

func TestP22AlwaysExactlyIfTheLeastIsTrue(t *testing.T) {
	for _, x := range builtMany() {
		for _, steps := range allChains {
			checkAlways(t, steps, x.text, impl.LeastAt(steps, x.text) == steps)
		}
	}
}

func TestP22ChainsThatDivide(t *testing.T) {
	fewer := 0
	for _, x := range builtMany() {
		for _, steps := range allChains {
			for part := 1; part < steps; part++ {
				switch {
				case steps%part != 0:
				case impl.AlwaysOk(steps, x.text):
					checkAlways(t, part, x.text, true)
				case impl.AlwaysOk(part, x.text):
					fewer++
				}
			}
		}
	}
	if fewer == 0 {
		t.Error("nothing holds in a chain that does not in a longer one")
	}
}

// checkFollows checks that a formula always holds if another one does and it always follows of that, and tells whether it had to.
func checkFollows(t *testing.T, steps int, x, y string) bool {
	t.Helper()
	from := "(" + x + ">" + y + ")"
	if len(from) > impl.MaxFormula || !impl.AlwaysOk(steps, x) || !impl.AlwaysOk(steps, from) {
		return false
	}
	checkAlways(t, steps, y, true)
	return true
}

func TestP22WhatFollows(t *testing.T) {
	followed, refused := 0, 0
	for _, x := range builtMany() {
		if len(x.text) > 28 {
			continue
		}
		greater := "(" + x.text + "|a)"
		for _, steps := range allChains {
			holds := impl.AlwaysOk(steps, x.text)
			if checkFollows(t, steps, x.text, x.text) != holds || checkFollows(t, steps, x.text, greater) != (holds && 2*len(x.text)+7 <= 60) {
				t.Errorf("of %q in the chain of %d steps does not follow what is no less", x.text, steps)
			}
			for _, y := range shortByHand() {
				if checkFollows(t, steps, x.text, y) {
					followed++
				} else {
					refused++
				}
			}
		}
	}
	if followed == 0 || refused == 0 {
		t.Errorf("%d formulas followed, %d did not", followed, refused)
	}
}

// shortByHand returns the shorter texts of chainsByHand, ascending.
func shortByHand() []string {
	var list []string
	for s := range chainsByHand {
		if len(s) <= 20 {
			list = append(list, s)
		}
	}
	slices.Sort(list)
	return list
}

func TestP22OthersNeverHold(t *testing.T) {
	eachBadChain(func(steps int, s string) { checkAlways(t, steps, s, false) })
}

// P23: What does not hold has values against it.
func TestP23AgainstByHand(t *testing.T) {
	for s, want := range map[string][]int{
		"a": {0, 0, 0}, "b": {0, 0, 0}, "c": {0, 0, 0}, "!a": {1, 0, 0}, "!b": {0, 1, 0}, "!c": {0, 0, 1}, "0": {0, 0, 0}, "!1": {0, 0, 0},
		"(a>b)": {1, 0, 0}, "(b>a)": {0, 1, 0}, "(c>a)": {0, 0, 1}, "(c>b)": {0, 0, 1}, "(a>c)": {1, 0, 0}, "(b>c)": {0, 1, 0},
		"(a|!a)": {1, 0, 0}, "(b|!b)": {0, 1, 0}, "(c|!c)": {0, 0, 1}, "(b>(a|c))": {0, 1, 0}, "(a>(a*a))": {1, 0, 0},
		"!(a*b)": {1, 3, 0}, "!(a*c)": {1, 0, 3}, "!(b*c)": {0, 1, 3}, "!((a*b)*c)": {1, 3, 3}, "(a>0)": {1, 0, 0},
		"((c>b)|(b>a))": {0, 1, 2}, "((a>b)|(b>c))": {2, 1, 0}, "((a>c)|(c>b))": {2, 0, 1},
		"((b>c)|(c>a))": {0, 2, 1}, "((c>a)|(a>b))": {1, 0, 2}, "((b>a)|(a>c))": {1, 2, 0},
		"((a*a)>((a*a)*a))": {2, 0, 0}, "((c*c)>((c*c)*c))": {0, 0, 2}, "!((a*a)*(b*b))": {2, 3, 0}, "!((b*b)*(c*c))": {0, 2, 3},
		strings.Repeat("!", 59) + "b": {0, 1, 0}, strings.Repeat("!", 58) + "1": nil, "1": nil, "(c>c)": nil, "(0>a)": nil,
	} {
		checkAgainst(t, 3, s, want...)
	}
	checkAgainst(t, 1, "((a>b)|(b>c))")
	checkAgainst(t, 1, "(a|!a)")
	checkAgainst(t, 1, "!((a*b)*c)", 1, 1, 1)
	checkAgainst(t, 6, "!((a*b)*c)", 1, 6, 6)
	checkAgainst(t, 6, "(!(a*a)|(!(b*b)|!(c*c)))", 4, 4, 4)
	checkAgainst(t, 6, "!((((a*a)*a)*a)*a)", 5, 0, 0)
	checkAgainst(t, 6, "!(((((c*c)*c)*c)*c)*c)", 0, 0, 6)
	checkAgainst(t, 6, "((((((b*b)*b)*b)*b)*b)>((((((b*b)*b)*b)*b)*b)*b))")
}

func TestP23AgainstOfBuilt(t *testing.T) {
	for _, x := range builtMany() {
		for _, steps := range allChains {
			var first []int
			eachTripleOf(steps, func(a, b, c int) {
				if first == nil && x.value(steps, a, b, c) != steps {
					first = []int{a, b, c}
				}
			})
			checkAgainst(t, steps, x.text, first...)
		}
	}
}

func TestP23ExactlyIfItDoesNotAlwaysHold(t *testing.T) {
	told, untold := 0, 0
	for _, x := range builtMany() {
		for _, steps := range allChains {
			a, b, c, ok := impl.AgainstOf(steps, x.text)
			if ok == impl.AlwaysOk(steps, x.text) {
				t.Errorf("AgainstOf(%d, %q) is %d, %d, %d, %v", steps, x.text, a, b, c, ok)
			}
			if !ok {
				untold++
				continue
			}
			told++
			if v := impl.ValueAt(steps, x.text, a, b, c); v < 0 || v == steps {
				t.Errorf("AgainstOf(%d, %q) is %d, %d, %d, for which it is %d", steps, x.text, a, b, c, v)
			}
		}
	}
	if told == 0 || untold == 0 {
		t.Errorf("told %d times, and %d times not", told, untold)
	}
}

func TestP23NothingAgainstOthers(t *testing.T) {
	eachBadChain(func(steps int, s string) { checkAgainst(t, steps, s) })
}

// P24: The same is what follows both ways.
func TestP24SameByHand(t *testing.T) {
	long, longer := strings.Repeat("!", 58)+"a", strings.Repeat("!", 59)+"a"
	for _, x := range []struct {
		first, second string
		chains        []int
	}{
		{"a", "a", allChains}, {"a", "b", nil}, {"a", "c", nil}, {"b", "c", nil}, {"0", "1", nil}, {"a", "0", nil}, {"a", "1", nil}, {"a", "!a", nil}, {"a", "!!a", allChains},
		{"!0", "1", allChains}, {"(a>0)", "!a", allChains}, {"(a|b)", "((a>b)>b)", allChains}, {"(a+b)", "(!a>b)", allChains}, {"(a*b)", "!(a>!b)", allChains},
		{"(a&b)", "(a*(a>b))", allChains}, {"(a&b)", "(b&a)", allChains}, {"(a>b)", "(b>a)", nil}, {"(a>b)", "(!b>!a)", allChains},
		{"(a*a)", "a", []int{1}}, {"(a*b)", "(a&b)", []int{1}}, {"(a+b)", "(a|b)", []int{1}}, {"(a|!a)", "1", []int{1}}, {"(a|!a)", "(b|!b)", []int{1}},
		{"(a*a)", "(a*(a*a))", []int{1, 2}}, {"((a*a)*a)", "(((a*a)*a)*a)", []int{1, 2, 3}}, {"((a*a)*(a*a))", "((((a*a)*a)*a)*a)", []int{1, 2, 3, 4}},
		{"(a&!a)", "(b*!b)", []int{1}}, {"(c>c)", "(a>a)", allChains}, {"(b*c)", "(c*b)", allChains}, {"(b*c)", "(b*a)", nil},
		{long, "a", allChains}, {longer, "!a", allChains}, {long, longer, nil}, {longer, longer, allChains}, {longer, strings.Repeat("!", 57) + "a", allChains},
	} {
		for _, steps := range allChains {
			checkSame(t, steps, x.first, x.second, slices.Contains(x.chains, steps))
		}
	}
}

func TestP24SameOfBuilt(t *testing.T) {
	list := append(builtSmall(), builtLaws(builtAtoms[0], builtAtoms[1])...)
	for _, steps := range []int{1, 2, 3, 6} {
		var values [][]int
		for _, x := range list {
			values = append(values, valuesOf(x, steps))
		}
		for i, x := range list {
			for j := range i + 1 {
				checkSame(t, steps, x.text, list[j].text, slices.Equal(values[i], values[j]))
			}
		}
	}
}

// Nothing can be put between formulas so long: they are told by their values alone.
func TestP24SameOfLong(t *testing.T) {
	for _, x := range builtOfAllLengths(builtAtoms, 2) {
		for _, y := range []built{builtNot(builtNot(x)), builtPair(timesPlace, x, builtAtoms[4]), builtNot(x), builtPair(lesserPlace, x, builtAtoms[2])} {
			for _, steps := range []int{1, 3, 4} {
				same := slices.Equal(valuesOf(x, steps), valuesOf(y, steps))
				checkSame(t, steps, x.text, y.text, same && len(y.text) <= 60)
			}
		}
	}
}

func TestP24FollowBothWays(t *testing.T) {
	list := append(shortByHand(), "(a&a)", "(b>(a*c))", "!(b*!(a*c))", "(a>(b>c))", "((a*b)>c)")
	same, follows := 0, 0
	for _, x := range list {
		for _, y := range list {
			for _, steps := range allChains {
				there, back := impl.AlwaysOk(steps, "("+x+">"+y+")"), impl.AlwaysOk(steps, "("+y+">"+x+")")
				checkSame(t, steps, x, y, there && back)
				if there && back {
					same++
				} else if there {
					follows++
				}
			}
		}
	}
	if same == 0 || follows == 0 {
		t.Errorf("%d times the same, and %d times just one way", same, follows)
	}
}

func TestP24OthersAreNotTheSame(t *testing.T) {
	eachBadChain(func(steps int, s string) {
		checkSame(t, steps, s, s, false)
		checkSame(t, steps, s, "a", false)
		checkSame(t, steps, s, "", false)
	})
}

// P25: Axioms hold in all chains.
func TestP25AxiomsByHand(t *testing.T) {
	for number, want := range axiomsByHand {
		if got := impl.AxiomAt(number); got != want {
			t.Errorf("AxiomAt(%d) is %q, not %q", number, got, want)
		}
	}
}

func TestP25AxiomsAlwaysHold(t *testing.T) {
	for number := range 4 {
		checkChains(t, impl.AxiomAt(number), allChains)
		for _, steps := range allChains {
			checkAlways(t, steps, impl.AxiomAt(number), true)
		}
	}
}

func TestP25OtherNumbersHaveNoAxiom(t *testing.T) {
	for _, number := range badNumbers {
		if got := impl.AxiomAt(number); got != "" {
			t.Errorf("AxiomAt(%d) is %q", number, got)
		}
	}
}

// P26: Divisors of chains are chains.
func TestP26ChainsByHand(t *testing.T) {
	for s, want := range chainsByHand {
		checkChains(t, s, want)
	}
}

func TestP26ChainsOfBuilt(t *testing.T) {
	for _, x := range builtMany() {
		var want []int
		for _, steps := range allChains {
			if slices.Min(valuesOf(x, steps)) == steps {
				want = append(want, steps)
			}
		}
		checkChains(t, x.text, want)
	}
}

func TestP26ExactlyWhereItAlwaysHolds(t *testing.T) {
	for _, x := range builtMany() {
		var want []int
		for _, steps := range allChains {
			if impl.AlwaysOk(steps, x.text) {
				want = append(want, steps)
			}
		}
		checkChains(t, x.text, want)
	}
}

func TestP26DivisorsAreTold(t *testing.T) {
	for _, x := range builtMany() {
		chains := impl.ChainsFor(x.text)
		for _, steps := range chains {
			for part := 1; part < steps; part++ {
				if steps%part == 0 && !slices.Contains(chains, part) {
					t.Errorf("ChainsFor(%q) is %v, without %d", x.text, chains, part)
				}
			}
		}
	}
}

func TestP26NewMemory(t *testing.T) {
	for _, s := range []string{"1", "(a|!a)", "((a*a)>((a*a)*a))", "(a>a)"} {
		first, second := impl.ChainsFor(s), impl.ChainsFor(s)
		want := slices.Clone(first)
		for i := range second[:cap(second)] {
			second[:cap(second)][i] = -7
		}
		if !slices.Equal(first, want) {
			t.Errorf("what ChainsFor(%q) returned first was written to", s)
		}
		checkChains(t, s, want)
	}
}

func TestP26OthersHoldInNoChain(t *testing.T) {
	eachNoFormula(func(s string) { checkChains(t, s, nil) })
}
