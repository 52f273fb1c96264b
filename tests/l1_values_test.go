package tests

import (
	"math"
	"strings"
	"testing"

	"loop.example/manyvalues/impl"
)

// textsOfChains has, for each number of steps from 1 on, the texts of all values from 0 on, written out by hand.
var textsOfChains = [][]string{
	{"0", "1"},
	{"0", "1/2", "1"},
	{"0", "1/3", "2/3", "1"},
	{"0", "1/4", "1/2", "3/4", "1"},
	{"0", "1/5", "2/5", "3/5", "4/5", "1"},
	{"0", "1/6", "1/3", "1/2", "2/3", "5/6", "1"},
}

// badSteps are numbers of steps that no chain has.
var badSteps = []int{math.MinInt, math.MinInt + 1, math.MinInt32, -6, -1, 0, 7, 8, 12, 64, 256, 1 << 32, 1<<32 + 1, math.MaxInt - 1, math.MaxInt}

// badValues returns numbers that are no values of a chain of so many steps.
func badValues(steps int) []int {
	return []int{math.MinInt, math.MinInt + 1, math.MinInt32, -steps, -1, steps + 1, 2 * steps, 1 << 32, math.MaxInt - steps, math.MaxInt}
}

// eachValue calls a function for each value of each chain.
func eachValue(check func(steps, v int)) {
	for steps := 1; steps <= 6; steps++ {
		for v := 0; v <= steps; v++ {
			check(steps, v)
		}
	}
}

// eachNoValue calls a function for pairs of steps and a number that are no value of a chain.
func eachNoValue(check func(steps, v int)) {
	for _, steps := range badSteps {
		for _, v := range []int{math.MinInt, -1, 0, 1, steps, math.MaxInt} {
			check(steps, v)
		}
	}
	for steps := 1; steps <= 6; steps++ {
		for _, v := range badValues(steps) {
			check(steps, v)
		}
	}
}

func TestMaxSteps(t *testing.T) {
	if impl.MaxSteps != 6 {
		t.Fatal(impl.MaxSteps)
	}
}

// P1: False and true are values.
func TestP1FalseAndTrueAreValues(t *testing.T) {
	for steps := 1; steps <= 6; steps++ {
		if !impl.ValueOk(steps, 0) || !impl.ValueOk(steps, steps) {
			t.Errorf("chain of %d steps lacks false or true", steps)
		}
	}
}

func TestP1ValuesAreFromFalseToTrue(t *testing.T) {
	for steps := -3; steps <= 10; steps++ {
		for v := -3; v <= 10; v++ {
			want := 1 <= steps && steps <= 6 && 0 <= v && v <= steps
			if impl.ValueOk(steps, v) != want {
				t.Errorf("ValueOk(%d, %d) is not %v", steps, v, want)
			}
		}
	}
}

func TestP1OthersAreNoValues(t *testing.T) {
	eachNoValue(func(steps, v int) {
		if impl.ValueOk(steps, v) {
			t.Errorf("ValueOk(%d, %d)", steps, v)
		}
	})
}

// P2: The same fraction is the same both ways.
func TestP2SameFractions(t *testing.T) {
	eachValue(func(steps, v int) {
		if !impl.SameOk(steps, v, steps, v) {
			t.Errorf("%d of %d is not the same as itself", v, steps)
		}
		eachValue(func(other, w int) {
			same := impl.SameOk(steps, v, other, w)
			if same != (textsOfChains[steps-1][v] == textsOfChains[other-1][w]) {
				t.Errorf("SameOk(%d, %d, %d, %d) is %v", steps, v, other, w, same)
			}
			if same != (impl.ValueText(steps, v) == impl.ValueText(other, w)) {
				t.Errorf("SameOk(%d, %d, %d, %d) is %v, the texts tell otherwise", steps, v, other, w, same)
			}
			if same != impl.SameOk(other, w, steps, v) {
				t.Errorf("SameOk(%d, %d, %d, %d) is not the same exchanged", steps, v, other, w)
			}
		})
	})
}

func TestP2FalseIsNotTrue(t *testing.T) {
	if impl.SameOk(1, 0, 1, 1) || impl.SameOk(1, 1, 1, 0) {
		t.Error("false is true in the chain of one step")
	}
	for other := 1; other <= 6; other++ {
		if !impl.SameOk(1, 0, other, 0) || !impl.SameOk(1, 1, other, other) {
			t.Errorf("false and true of one step are not those of %d", other)
		}
		if impl.SameOk(1, 0, other, other) || impl.SameOk(1, 1, other, 0) {
			t.Errorf("false of one step is true of %d", other)
		}
	}
}

func TestP2OthersAreNotTheSame(t *testing.T) {
	eachNoValue(func(steps, v int) {
		if impl.SameOk(steps, v, steps, v) {
			t.Errorf("%d of %d is the same as itself, but no value", v, steps)
		}
		eachValue(func(other, w int) {
			if impl.SameOk(steps, v, other, w) || impl.SameOk(other, w, steps, v) {
				t.Errorf("%d of %d is the same as %d of %d, but no value", v, steps, w, other)
			}
		})
	})
}

// P3: Lowest terms are lowest.
func TestP3LowestTerms(t *testing.T) {
	eachValue(func(steps, v int) {
		lowest, w, ok := impl.LowestOf(steps, v)
		if !ok || !impl.SameOk(steps, v, lowest, w) {
			t.Fatalf("LowestOf(%d, %d) is %d, %d, %v", steps, v, lowest, w, ok)
		}
		if steps%lowest != 0 {
			t.Errorf("LowestOf(%d, %d): %d does not divide the steps", steps, v, lowest)
		}
		for shorter := 1; shorter < lowest; shorter++ {
			if x, ok := impl.MovedTo(steps, v, shorter); ok {
				t.Errorf("LowestOf(%d, %d) is %d steps, but %d has %d", steps, v, lowest, shorter, x)
			}
		}
	})
}

func TestP3LowestTermsByHand(t *testing.T) {
	for _, c := range [][4]int{
		{1, 0, 1, 0}, {1, 1, 1, 1}, {2, 0, 1, 0}, {2, 1, 2, 1}, {2, 2, 1, 1}, {3, 2, 3, 2}, {4, 0, 1, 0}, {4, 2, 2, 1},
		{4, 3, 4, 3}, {5, 5, 1, 1}, {5, 3, 5, 3}, {6, 0, 1, 0}, {6, 2, 3, 1}, {6, 3, 2, 1}, {6, 4, 3, 2}, {6, 5, 6, 5}, {6, 6, 1, 1},
	} {
		lowest, w, ok := impl.LowestOf(c[0], c[1])
		if !ok || lowest != c[2] || w != c[3] {
			t.Errorf("LowestOf(%d, %d) is %d, %d, %v", c[0], c[1], lowest, w, ok)
		}
	}
}

func TestP3OthersHaveNoLowestTerms(t *testing.T) {
	eachNoValue(func(steps, v int) {
		if lowest, w, ok := impl.LowestOf(steps, v); ok || lowest != -1 || w != -1 {
			t.Errorf("LowestOf(%d, %d) is %d, %d, %v", steps, v, lowest, w, ok)
		}
	})
}

// P4: Longer chains have all values.
func TestP4MovedIsTheSameFraction(t *testing.T) {
	eachValue(func(steps, v int) {
		for other := 1; other <= 6; other++ {
			w, ok := impl.MovedTo(steps, v, other)
			if !ok {
				if w != -1 {
					t.Errorf("MovedTo(%d, %d, %d) is %d beside false", steps, v, other, w)
				}
				continue
			}
			if !impl.SameOk(steps, v, other, w) {
				t.Errorf("MovedTo(%d, %d, %d) is %d, another fraction", steps, v, other, w)
			}
			if back, ok := impl.MovedTo(other, w, steps); !ok || back != v {
				t.Errorf("MovedTo(%d, %d, %d) moved back is %d, %v", steps, v, other, back, ok)
			}
		}
	})
}

func TestP4MovedToWhereverItIs(t *testing.T) {
	eachValue(func(steps, v int) {
		eachValue(func(other, w int) {
			if textsOfChains[steps-1][v] != textsOfChains[other-1][w] {
				return
			}
			if got, ok := impl.MovedTo(steps, v, other); !ok || got != w {
				t.Errorf("MovedTo(%d, %d, %d) is %d, %v", steps, v, other, got, ok)
			}
		})
	})
}

func TestP4AllValuesExactlyForMultiples(t *testing.T) {
	for steps := 1; steps <= 6; steps++ {
		for other := 1; other <= 6; other++ {
			all := true
			for v := 0; v <= steps; v++ {
				_, ok := impl.MovedTo(steps, v, other)
				all = all && ok
			}
			if all != (other%steps == 0) {
				t.Errorf("chain of %d steps has all values of that of %d: %v", other, steps, all)
			}
		}
	}
}

func TestP4NothingIsMoved(t *testing.T) {
	refuse := func(steps, v, other int) {
		if w, ok := impl.MovedTo(steps, v, other); ok || w != -1 {
			t.Errorf("MovedTo(%d, %d, %d) is %d, %v", steps, v, other, w, ok)
		}
	}
	for _, c := range [][3]int{{2, 1, 1}, {2, 1, 3}, {2, 1, 5}, {3, 2, 4}, {4, 1, 6}, {4, 3, 2}, {6, 5, 5}} {
		refuse(c[0], c[1], c[2])
	}
	eachNoValue(func(steps, v int) {
		for other := 1; other <= 6; other++ {
			refuse(steps, v, other)
		}
		refuse(steps, v, steps)
	})
	eachValue(func(steps, v int) {
		for _, other := range badSteps {
			refuse(steps, v, other)
		}
	})
}

// P61: Texts of values are read.
func TestP61TextsAreRead(t *testing.T) {
	eachValue(func(steps, v int) {
		text := impl.ValueText(steps, v)
		if text != textsOfChains[steps-1][v] {
			t.Errorf("ValueText(%d, %d) is %q", steps, v, text)
		}
		if got, ok := impl.ReadValue(steps, text); !ok || got != v {
			t.Errorf("ReadValue(%d, %q) is %d, %v", steps, text, got, ok)
		}
	})
}

func TestP61FalseAndTrue(t *testing.T) {
	for steps := 1; steps <= 6; steps++ {
		if impl.ValueText(steps, 0) != "0" || impl.ValueText(steps, steps) != "1" {
			t.Errorf("chain of %d steps: %q, %q", steps, impl.ValueText(steps, 0), impl.ValueText(steps, steps))
		}
		if v, ok := impl.ReadValue(steps, "0"); !ok || v != 0 {
			t.Errorf("ReadValue(%d, 0) is %d, %v", steps, v, ok)
		}
		if v, ok := impl.ReadValue(steps, "1"); !ok || v != steps {
			t.Errorf("ReadValue(%d, 1) is %d, %v", steps, v, ok)
		}
	}
}

func TestP61OthersHaveNoText(t *testing.T) {
	eachNoValue(func(steps, v int) {
		if s := impl.ValueText(steps, v); s != "" {
			t.Errorf("ValueText(%d, %d) is %q", steps, v, s)
		}
	})
}

// readsAsInTable checks that a text is read for a chain exactly if it is the text of a value there by the table, as that value.
func readsAsInTable(t *testing.T, steps int, s string) {
	t.Helper()
	want, wantOk := -1, false
	for v, text := range textsOfChains[steps-1] {
		if text == s {
			want, wantOk = v, true
		}
	}
	v, ok := impl.ReadValue(steps, s)
	if v != want || ok != wantOk {
		t.Errorf("ReadValue(%d, %q) is %d, %v", steps, s, v, ok)
	}
	if ok && impl.ValueText(steps, v) != s {
		t.Errorf("ReadValue(%d, %q) is %d, of text %q", steps, s, v, impl.ValueText(steps, v))
	}
}

// P62: Read texts are canonical.
func TestP62ShortTexts(t *testing.T) {
	texts := []string{""}
	for from := 0; len(texts[from]) < 4; from++ {
		for _, sign := range "01234567/-+ " {
			texts = append(texts, texts[from]+string(sign))
		}
	}
	for steps := 1; steps <= 6; steps++ {
		for _, s := range texts {
			readsAsInTable(t, steps, s)
		}
	}
}

func TestP62NothingAheadOrBehind(t *testing.T) {
	extras := []string{"0", "1", "/", "-", "+", ".", ",", " ", "\t", "\n", "\r\n", "\x00", "\xff", "\u00a0", "\ufeff", "1/2", "/1", "1/", "a"}
	eachValue(func(steps, v int) {
		for _, extra := range extras {
			readsAsInTable(t, steps, extra+textsOfChains[steps-1][v])
			readsAsInTable(t, steps, textsOfChains[steps-1][v]+extra)
		}
	})
}

func TestP62OtherTextsAreRefused(t *testing.T) {
	texts := []string{
		"", "/", "1/", "/2", "0/1", "1/1", "0/2", "2/2", "2/4", "4/4", "2/6", "3/6", "4/6", "6/6", "0/6", "-0", "+0", "-1", "+1", "00", "01",
		"01/2", "1/02", "1/ 2", "1 /2", "1//2", "1/2/1", "-1/2", "-1/-2", "1/-2", "+1/2", "1/+2", "0.5", ".5", "5e-1", "1\\2", "\u00bd", "\uff11/\uff12",
		"\u0661", "1/7", "6/7", "7/6", "3/2", "2", "6", "false", "true", "\x80", "1\x00/2", "0x1", "1_0", "18446744073709551617/2", "9223372036854775807",
		"-9223372036854775808", strings.Repeat("1", 5000), "1/" + strings.Repeat("0", 5000) + "2", strings.Repeat("1/2", 2000),
	}
	for steps := 1; steps <= 6; steps++ {
		for _, s := range texts {
			if v, ok := impl.ReadValue(steps, s); ok || v != -1 {
				t.Errorf("ReadValue(%d, %q) is %d, %v", steps, s, v, ok)
			}
		}
	}
}

func TestP62ValuesOfOtherChainsAreRefused(t *testing.T) {
	eachValue(func(steps, v int) {
		for other := 1; other <= 6; other++ {
			readsAsInTable(t, other, textsOfChains[steps-1][v])
		}
	})
}

func TestP62OtherChainsReadNothing(t *testing.T) {
	for _, steps := range badSteps {
		for _, s := range []string{"", "0", "1", "1/2", "-1", "1/7"} {
			if v, ok := impl.ReadValue(steps, s); ok || v != -1 {
				t.Errorf("ReadValue(%d, %q) is %d, %v", steps, s, v, ok)
			}
		}
	}
}
