package tests

import (
	"math"
	"slices"
	"testing"

	"loop.example/manyvalues/impl"
)

// closedByHand has, for the chains from one step to six, the values of all closed sets, in ascending order of the sets.
var closedByHand = [][][]int{
	{{0, 1}},
	{{0, 2}, {0, 1, 2}},
	{{0, 3}, {0, 1, 2, 3}},
	{{0, 4}, {0, 2, 4}, {0, 1, 2, 3, 4}},
	{{0, 5}, {0, 1, 2, 3, 4, 5}},
	{{0, 6}, {0, 3, 6}, {0, 2, 4, 6}, {0, 1, 2, 3, 4, 5, 6}},
}

// withinByHand has, for the chains from one step to six, the sets of the chains within from one step to six, -1 where there is none.
var withinByHand = [][]int{
	{3, -1, -1, -1, -1, -1},
	{5, 7, -1, -1, -1, -1},
	{9, -1, 15, -1, -1, -1},
	{17, 21, -1, 31, -1, -1},
	{33, -1, -1, -1, 63, -1},
	{65, 73, 85, -1, -1, 127},
}

// setOfValues returns the set of values.
func setOfValues(values ...int) int {
	set := 0
	for _, v := range values {
		set |= 1 << v
	}
	return set
}

// valuesOfSet returns the values of a set of a chain, ascending.
func valuesOfSet(steps, set int) []int {
	var values []int
	for v := 0; v <= steps; v++ {
		if set/(1<<v)%2 == 1 {
			values = append(values, v)
		}
	}
	return values
}

// allOfChain returns the set of all values of a chain.
func allOfChain(steps int) int {
	return 2<<steps - 1
}

// hasAll reports whether a set has all values of another one.
func hasAll(set, part int) bool {
	return set|part == set
}

// closedSetsByHand returns the closed sets of a chain, from closedByHand.
func closedSetsByHand(steps int) []int {
	var list []int
	for _, values := range closedByHand[steps-1] {
		list = append(list, setOfValues(values...))
	}
	return list
}

// leastByHand returns the first one of the closed sets of a chain that has all values of a set and is part of all others that have them.
func leastByHand(steps, set int) int {
	list := slices.DeleteFunc(closedSetsByHand(steps), func(closed int) bool { return !hasAll(closed, set) })
	for _, closed := range list {
		if !slices.ContainsFunc(list, func(other int) bool { return !hasAll(other, closed) }) {
			return closed
		}
	}
	return -1
}

// badSets returns numbers that are no sets of values of a chain: they are below 0, or have values that it has not.
func badSets(steps int) []int {
	beyond := 2 << steps
	list := []int{math.MinInt, math.MinInt + 1, math.MinInt32, -256, -128, -127, -3, -2, -1, beyond, beyond + 1, 2*beyond - 2, 2*beyond - 1, 2 * beyond, 256, 257, 1 << 32, 1 << 62, math.MaxInt - 1, math.MaxInt}
	for _, closed := range closedSetsByHand(steps) {
		list = append(list, -closed, closed-2*beyond, closed+math.MinInt, closed+beyond, closed+2*beyond, closed+1<<32, closed+1<<62)
	}
	return list
}

// eachSet calls a function for each set of values of each chain.
func eachSet(check func(steps, set int)) {
	for steps := 1; steps <= 6; steps++ {
		for set := 0; set <= allOfChain(steps); set++ {
			check(steps, set)
		}
	}
}

// eachClosedSet calls a function for each closed set of each chain.
func eachClosedSet(check func(steps, set int)) {
	for steps := 1; steps <= 6; steps++ {
		for _, set := range closedSetsByHand(steps) {
			check(steps, set)
		}
	}
}

// eachNoSet calls a function for numbers that are no sets of values of a chain, and for sets where there is no chain.
func eachNoSet(check func(steps, set int)) {
	for steps := 1; steps <= 6; steps++ {
		for _, set := range badSets(steps) {
			check(steps, set)
		}
	}
	for _, steps := range badSteps {
		for set := -1; set <= 256; set++ {
			check(steps, set)
		}
		for _, set := range []int{math.MinInt, math.MinInt + 1, -2, 1 << 32, 1<<32 + 1, math.MaxInt - 1, math.MaxInt} {
			check(steps, set)
		}
	}
}

// checkClosed checks ClosedOk.
func checkClosed(t *testing.T, steps, set int, want bool) {
	t.Helper()
	if got := impl.ClosedOk(steps, set); got != want {
		t.Errorf("ClosedOk(%d, %d) is %v", steps, set, got)
	}
}

// checkMade checks MadeBy.
func checkMade(t *testing.T, steps, set, want int) {
	t.Helper()
	if got := impl.MadeBy(steps, set); got != want {
		t.Errorf("MadeBy(%d, %d) is %d, not %d", steps, set, got, want)
	}
}

// checkWithin checks ChainWithin.
func checkWithin(t *testing.T, steps, other, want int) {
	t.Helper()
	if got := impl.ChainWithin(steps, other); got != want {
		t.Errorf("ChainWithin(%d, %d) is %d, not %d", steps, other, got, want)
	}
}

// checkClosedSets checks ClosedSets.
func checkClosedSets(t *testing.T, steps int, want []int) {
	t.Helper()
	if got := impl.ClosedSets(steps); !slices.Equal(got, want) {
		t.Errorf("ClosedSets(%d) is %v, not %v", steps, got, want)
	}
}

// checkStepsFor checks StepsFor.
func checkStepsFor(t *testing.T, steps, set, want int) {
	t.Helper()
	if got := impl.StepsFor(steps, set); got != want {
		t.Errorf("StepsFor(%d, %d) is %d, not %d", steps, set, got, want)
	}
}

// P27: Closed sets have all signs.
func TestP27ClosedByHand(t *testing.T) {
	eachSet(func(steps, set int) {
		checkClosed(t, steps, set, slices.Contains(closedSetsByHand(steps), set))
	})
}

func TestP27ClosedInWords(t *testing.T) {
	eachSet(func(steps, set int) {
		values := valuesOfSet(steps, set)
		want := slices.Contains(values, 0)
		for _, a := range values {
			for _, b := range values {
				want = want && slices.Contains(values, min(steps, steps-a+b))
			}
		}
		checkClosed(t, steps, set, want)
	})
}

func TestP27ClosedByNumbers(t *testing.T) {
	for steps, closed := range map[int][]int{1: {3}, 2: {5, 7}, 3: {9, 15}, 4: {17, 21, 31}, 5: {33, 63}, 6: {65, 73, 85, 127}} {
		for set := -300; set <= 300; set++ {
			checkClosed(t, steps, set, slices.Contains(closed, set))
		}
	}
}

func TestP27FalseAndTrue(t *testing.T) {
	for steps := 1; steps <= 6; steps++ {
		checkClosed(t, steps, setOfValues(0, steps), true)
		checkClosed(t, steps, allOfChain(steps), true)
		checkClosed(t, steps, setOfValues(), false)
		checkClosed(t, steps, setOfValues(0), false)
		checkClosed(t, steps, setOfValues(steps), false)
		checkClosed(t, steps, allOfChain(steps)-1, false)
		checkClosed(t, steps, allOfChain(steps)-setOfValues(steps), false)
		for v := 1; v < steps; v++ {
			checkClosed(t, steps, setOfValues(0, v, steps), 2*v == steps)
		}
	}
}

func TestP27HaveAllSigns(t *testing.T) {
	closed := 0
	eachSet(func(steps, set int) {
		if !impl.ClosedOk(steps, set) {
			return
		}
		closed++
		values := valuesOfSet(steps, set)
		for _, a := range values {
			for _, b := range values {
				for _, made := range []int{impl.NotOf(steps, a), impl.PlusOf(steps, a, b), impl.TimesOf(steps, a, b), impl.LesserOf(steps, a, b), impl.GreaterOf(steps, a, b), steps} {
					if !slices.Contains(values, made) {
						t.Errorf("chain of %d steps: %v is closed, but lacks %d, made of %d and %d", steps, values, made, a, b)
					}
				}
			}
		}
	})
	if closed != 14 {
		t.Errorf("%d sets are closed", closed)
	}
}

func TestP27OthersAreNotClosed(t *testing.T) {
	eachNoSet(func(steps, set int) { checkClosed(t, steps, set, false) })
}

// P28: One value makes its own chain.
func TestP28MadeByHand(t *testing.T) {
	for steps, made := range map[int]map[int]int{
		1: {0: 3, 1: 3, 2: 3, 3: 3},
		2: {0: 5, 1: 5, 2: 7, 3: 7, 4: 5, 5: 5, 6: 7, 7: 7},
		3: {0: 9, 1: 9, 2: 15, 3: 15, 4: 15, 5: 15, 6: 15, 7: 15, 8: 9, 9: 9, 10: 15, 11: 15, 12: 15, 13: 15, 14: 15, 15: 15},
		4: {0: 17, 1: 17, 2: 31, 4: 21, 5: 21, 6: 31, 8: 31, 10: 31, 12: 31, 16: 17, 17: 17, 20: 21, 21: 21, 30: 31, 31: 31},
		5: {0: 33, 1: 33, 2: 63, 4: 63, 8: 63, 16: 63, 32: 33, 33: 33, 30: 63, 62: 63, 63: 63},
		6: {0: 65, 1: 65, 2: 127, 4: 85, 8: 73, 16: 85, 32: 127, 64: 65, 65: 65, 12: 127, 20: 85, 24: 127, 9: 73, 72: 73, 73: 73, 84: 85, 85: 85, 34: 127, 126: 127, 127: 127},
	} {
		for set, want := range made {
			checkMade(t, steps, set, want)
		}
	}
}

func TestP28Least(t *testing.T) {
	eachSet(func(steps, set int) { checkMade(t, steps, set, leastByHand(steps, set)) })
}

func TestP28ClosedAndInEachClosedSet(t *testing.T) {
	eachSet(func(steps, set int) {
		made := impl.MadeBy(steps, set)
		checkClosed(t, steps, made, true)
		if !hasAll(made, set) {
			t.Errorf("MadeBy(%d, %d) is %d, which has not the set", steps, set, made)
		}
		for _, closed := range impl.ClosedSets(steps) {
			if hasAll(closed, set) && !hasAll(closed, made) {
				t.Errorf("MadeBy(%d, %d) is %d, which is not in %d", steps, set, made, closed)
			}
		}
	})
}

func TestP28OneValue(t *testing.T) {
	eachValue(func(steps, v int) {
		lowest, _, _ := impl.LowestOf(steps, v)
		checkMade(t, steps, setOfValues(v), impl.ChainWithin(steps, lowest))
		checkMade(t, steps, setOfValues(v), withinByHand[steps-1][lowest-1])
	})
}

// commonMultiple returns the least common multiple of two numbers above 0.
func commonMultiple(a, b int) int {
	multiple := a
	for multiple%b != 0 {
		multiple += a
	}
	return multiple
}

func TestP28TwoValues(t *testing.T) {
	eachPair(func(steps, a, b int) {
		first, _, _ := impl.LowestOf(steps, a)
		second, _, _ := impl.LowestOf(steps, b)
		checkMade(t, steps, setOfValues(a, b), withinByHand[steps-1][commonMultiple(first, second)-1])
	})
}

func TestP28NothingMakesFalseAndTrue(t *testing.T) {
	for steps := 1; steps <= 6; steps++ {
		for _, values := range [][]int{{}, {0}, {steps}, {0, steps}} {
			checkMade(t, steps, setOfValues(values...), setOfValues(0, steps))
		}
	}
}

func TestP28AllIsMade(t *testing.T) {
	for steps := 1; steps <= 6; steps++ {
		checkMade(t, steps, setOfValues(1), allOfChain(steps))
		checkMade(t, steps, setOfValues(steps-1), allOfChain(steps))
		checkMade(t, steps, allOfChain(steps), allOfChain(steps))
		checkMade(t, steps, allOfChain(steps)-1, allOfChain(steps))
	}
	checkMade(t, 6, setOfValues(2, 3), allOfChain(6))
	checkMade(t, 6, setOfValues(3, 4), allOfChain(6))
}

func TestP28ClosedMakesItself(t *testing.T) {
	eachSet(func(steps, set int) {
		made := impl.MadeBy(steps, set)
		checkMade(t, steps, made, made)
		if closed := impl.ClosedOk(steps, set); closed != (made == set) {
			t.Errorf("ClosedOk(%d, %d) is %v, but %d is made", steps, set, closed, made)
		}
	})
}

func TestP28OthersMakeNothing(t *testing.T) {
	eachNoSet(func(steps, set int) { checkMade(t, steps, set, -1) })
}

// P29: Chains within are closed.
func TestP29WithinByHand(t *testing.T) {
	for i, row := range withinByHand {
		for j, want := range row {
			checkWithin(t, i+1, j+1, want)
		}
	}
}

func TestP29WithinInWords(t *testing.T) {
	for steps := -8; steps <= 13; steps++ {
		for other := -8; other <= 13; other++ {
			want := -1
			if 1 <= steps && steps <= 6 && 1 <= other && other <= steps && steps%other == 0 {
				want = 0
				for v := 0; v <= steps; v += steps / other {
					want += 1 << v
				}
			}
			checkWithin(t, steps, other, want)
		}
	}
}

// eachDivisor calls a function for each chain and each chain within.
func eachDivisor(check func(steps, other int)) {
	for steps := 1; steps <= 6; steps++ {
		for other := 1; other <= steps; other++ {
			if steps%other == 0 {
				check(steps, other)
			}
		}
	}
}

func TestP29WithinAreMoved(t *testing.T) {
	eachDivisor(func(steps, other int) {
		values := valuesOfSet(steps, impl.ChainWithin(steps, other))
		for v := 0; v <= steps; v++ {
			if _, ok := impl.MovedTo(steps, v, other); ok != slices.Contains(values, v) {
				t.Errorf("chain of %d steps within that of %d: %v", other, steps, values)
			}
		}
	})
}

func TestP29WithinAreClosed(t *testing.T) {
	eachDivisor(func(steps, other int) {
		within := impl.ChainWithin(steps, other)
		checkClosed(t, steps, within, true)
		checkStepsFor(t, steps, within, other)
		if values := valuesOfSet(steps, within); len(values) != other+1 {
			t.Errorf("chain of %d steps within that of %d: %v", other, steps, values)
		}
	})
}

func TestP29WithinItself(t *testing.T) {
	for steps := 1; steps <= 6; steps++ {
		checkWithin(t, steps, steps, allOfChain(steps))
		checkWithin(t, steps, 1, setOfValues(0, steps))
	}
}

func TestP29OthersAreNotWithin(t *testing.T) {
	for steps := 1; steps <= 6; steps++ {
		for _, other := range badSteps {
			checkWithin(t, steps, other, -1)
			checkWithin(t, other, steps, -1)
		}
		for part := 1; part <= steps; part++ {
			checkWithin(t, steps, -part, -1)
			checkWithin(t, -steps, part, -1)
			checkWithin(t, -steps, -part, -1)
		}
	}
	for _, steps := range badSteps {
		for _, other := range badSteps {
			checkWithin(t, steps, other, -1)
		}
	}
}

// P30: Closed sets are divisors.
func TestP30ClosedSetsByHand(t *testing.T) {
	for steps := 1; steps <= 6; steps++ {
		checkClosedSets(t, steps, closedSetsByHand(steps))
	}
	checkClosedSets(t, 1, []int{3})
	checkClosedSets(t, 4, []int{17, 21, 31})
	checkClosedSets(t, 6, []int{65, 73, 85, 127})
}

func TestP30ExactlyClosed(t *testing.T) {
	for steps := 1; steps <= 6; steps++ {
		var want []int
		for set := 0; set <= allOfChain(steps); set++ {
			if impl.ClosedOk(steps, set) {
				want = append(want, set)
			}
		}
		checkClosedSets(t, steps, want)
	}
}

func TestP30AsManyAsDivisors(t *testing.T) {
	for i, want := range []int{1, 2, 2, 3, 2, 4} {
		if got := len(impl.ClosedSets(i + 1)); got != want {
			t.Errorf("the chain of %d steps has %d closed sets, not %d", i+1, got, want)
		}
	}
}

func TestP30EachIsAChainWithin(t *testing.T) {
	for steps := 1; steps <= 6; steps++ {
		for _, set := range impl.ClosedSets(steps) {
			checkWithin(t, steps, impl.StepsFor(steps, set), set)
		}
	}
	eachDivisor(func(steps, other int) {
		if list := impl.ClosedSets(steps); !slices.Contains(list, impl.ChainWithin(steps, other)) {
			t.Errorf("ClosedSets(%d) is %v, without the chain of %d steps", steps, list, other)
		}
	})
}

func TestP30NewMemory(t *testing.T) {
	for steps := 1; steps <= 6; steps++ {
		first, second := impl.ClosedSets(steps), impl.ClosedSets(steps)
		spare := first[:cap(first)]
		for i := range spare {
			spare[i] = -7
		}
		if want := closedSetsByHand(steps); !slices.Equal(second, want) {
			t.Errorf("ClosedSets(%d): writing to one result changes another one: %v", steps, second)
		}
		checkClosedSets(t, steps, closedSetsByHand(steps))
	}
}

func TestP30OthersHaveNoClosedSets(t *testing.T) {
	for _, steps := range badSteps {
		// A chain that is too long would have more sets than can be asked: the first one ends the test.
		if got := impl.ClosedSets(steps); len(got) != 0 {
			t.Fatalf("ClosedSets(%d) is %v", steps, got)
		}
	}
}

// P31: Steps within divide.
func TestP31StepsByHand(t *testing.T) {
	for steps, within := range map[int]map[int]int{1: {3: 1}, 2: {5: 1, 7: 2}, 3: {9: 1, 15: 3}, 4: {17: 1, 21: 2, 31: 4}, 5: {33: 1, 63: 5}, 6: {65: 1, 73: 2, 85: 3, 127: 6}} {
		for set := -300; set <= 300; set++ {
			want, ok := within[set]
			if !ok {
				want = -1
			}
			checkStepsFor(t, steps, set, want)
		}
	}
}

func TestP31StepsDivide(t *testing.T) {
	eachClosedSet(func(steps, set int) {
		other := impl.StepsFor(steps, set)
		if other < 1 || steps%other != 0 {
			t.Errorf("StepsFor(%d, %d) is %d", steps, set, other)
		}
	})
}

func TestP31ExactlyClosed(t *testing.T) {
	eachSet(func(steps, set int) {
		if other := impl.StepsFor(steps, set); (other == -1) == impl.ClosedOk(steps, set) {
			t.Errorf("StepsFor(%d, %d) is %d", steps, set, other)
		}
	})
}

func TestP31StepsOfWhatIsMade(t *testing.T) {
	eachValue(func(steps, v int) {
		lowest, _, _ := impl.LowestOf(steps, v)
		checkStepsFor(t, steps, impl.MadeBy(steps, setOfValues(v)), lowest)
	})
}

func TestP31FalseAndTrue(t *testing.T) {
	for steps := 1; steps <= 6; steps++ {
		checkStepsFor(t, steps, setOfValues(0, steps), 1)
		checkStepsFor(t, steps, allOfChain(steps), steps)
		checkStepsFor(t, steps, setOfValues(), -1)
		checkStepsFor(t, steps, setOfValues(0), -1)
		checkStepsFor(t, steps, setOfValues(steps), -1)
	}
}

// The set -1 is what ChainWithin tells where there is no chain: that must not be taken for a closed set.
func TestP31OthersHaveNoSteps(t *testing.T) {
	eachNoSet(func(steps, set int) { checkStepsFor(t, steps, set, -1) })
}
