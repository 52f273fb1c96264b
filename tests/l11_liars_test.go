package tests

import (
	"math"
	"slices"
	"testing"

	"loop.example/manyvalues/impl"
)

// gameChains are the numbers of steps that the chain of a game may have.
var gameChains = []int{1, 2, 3}

// noGameSteps are numbers of steps that the chain of no game has: those that no chain has, and those of longer chains.
var noGameSteps = append([]int{4, 5, 6}, badSteps...)

// noQuestions are numbers of questions that are too few or too many, among them some that a cut or a shift would take for others.
var noQuestions = []int{math.MinInt, math.MinInt + 1, math.MinInt + 5, math.MinInt32, -256, -64, -63, -12, -2, -1, 13, 14, 24, 31, 32, 62, 63, 64, 65, 69, 128, 255, 256, 257, 261, 1 << 32, 1<<32 + 5, 1 << 62, math.MaxInt32, math.MaxInt - 1, math.MaxInt}

// answersByHand has, for values and a set, the values after yes, and those after no.
var answersByHand = []struct {
	steps   int
	row     []int
	set     int
	yes, no []int
}{
	{1, []int{1}, 0, []int{0}, []int{1}}, {1, []int{1}, 1, []int{1}, []int{0}}, {1, []int{0}, 0, []int{0}, []int{0}}, {1, []int{0}, 1, []int{0}, []int{0}},
	{3, []int{3}, 0, []int{2}, []int{3}}, {3, []int{3}, 1, []int{3}, []int{2}}, {2, []int{1}, 1, []int{1}, []int{0}},
	{1, []int{1, 1}, 0, []int{0, 0}, []int{1, 1}}, {1, []int{1, 1}, 1, []int{1, 0}, []int{0, 1}}, {1, []int{1, 1}, 2, []int{0, 1}, []int{1, 0}}, {1, []int{1, 1}, 3, []int{1, 1}, []int{0, 0}},
	{2, []int{2, 1}, 1, []int{2, 0}, []int{1, 1}}, {2, []int{2, 1}, 2, []int{1, 1}, []int{2, 0}}, {2, []int{0, 2}, 1, []int{0, 1}, []int{0, 2}}, {2, []int{0, 2}, 2, []int{0, 2}, []int{0, 1}},
	{2, []int{2, 2, 1}, 1, []int{2, 1, 0}, []int{1, 2, 1}}, {2, []int{2, 2, 1}, 2, []int{1, 2, 0}, []int{2, 1, 1}}, {2, []int{2, 2, 1}, 4, []int{1, 1, 1}, []int{2, 2, 0}},
	{3, []int{3, 2, 1}, 0, []int{2, 1, 0}, []int{3, 2, 1}}, {3, []int{3, 2, 1}, 1, []int{3, 1, 0}, []int{2, 2, 1}}, {3, []int{3, 2, 1}, 2, []int{2, 2, 0}, []int{3, 1, 1}}, {3, []int{3, 2, 1}, 3, []int{3, 2, 0}, []int{2, 1, 1}},
	{3, []int{3, 2, 1}, 4, []int{2, 1, 1}, []int{3, 2, 0}}, {3, []int{3, 2, 1}, 5, []int{3, 1, 1}, []int{2, 2, 0}}, {3, []int{3, 2, 1}, 6, []int{2, 2, 1}, []int{3, 1, 0}}, {3, []int{3, 2, 1}, 7, []int{3, 2, 1}, []int{2, 1, 0}},
	{3, []int{0, 0, 0}, 5, []int{0, 0, 0}, []int{0, 0, 0}}, {3, []int{0, 3, 0}, 5, []int{0, 2, 0}, []int{0, 3, 0}}, {3, []int{0, 3, 0}, 2, []int{0, 3, 0}, []int{0, 2, 0}},
}

// weightsByHand has, for values, the weights before none to six questions.
var weightsByHand = []struct {
	steps   int
	row     []int
	weights []int
}{
	{1, []int{0}, []int{0, 0, 0, 0, 0, 0, 0}}, {1, []int{1}, []int{1, 1, 1, 1, 1, 1, 1}}, {2, []int{2}, []int{1, 2, 3, 4, 5, 6, 7}}, {3, []int{3}, []int{1, 2, 4, 7, 11, 16, 22}}, {3, []int{2}, []int{1, 2, 3, 4, 5, 6, 7}},
	{3, []int{0, 0, 0}, []int{0, 0, 0, 0, 0, 0, 0}}, {1, []int{1, 1, 1}, []int{3, 3, 3, 3, 3, 3, 3}}, {1, []int{1, 0, 1}, []int{2, 2, 2, 2, 2, 2, 2}},
	{2, []int{2, 2}, []int{2, 4, 6, 8, 10, 12, 14}}, {2, []int{2, 1}, []int{2, 3, 4, 5, 6, 7, 8}}, {2, []int{2, 2, 2}, []int{3, 6, 9, 12, 15, 18, 21}}, {2, []int{0, 2, 1}, []int{2, 3, 4, 5, 6, 7, 8}},
	{3, []int{3, 3}, []int{2, 4, 8, 14, 22, 32, 44}}, {3, []int{1, 2, 3}, []int{3, 5, 8, 12, 17, 23, 30}}, {3, []int{3, 3, 3}, []int{3, 6, 12, 21, 33, 48, 66}}, {3, []int{3, 0, 3}, []int{2, 4, 8, 14, 22, 32, 44}},
}

// lateWeightsByHand has, for the values from 0 to 3, the weights before seven to twelve questions.
var lateWeightsByHand = [][]int{{0, 0, 0, 0, 0, 0}, {1, 1, 1, 1, 1, 1}, {8, 9, 10, 11, 12, 13}, {29, 37, 46, 56, 67, 79}}

// fewestByHand has, for values, the greatest ones first, in a chain of three steps, how many questions are enough.
var fewestByHand = map[[3]int]int{
	{0, 0, 0}: 0, {1, 0, 0}: 0, {2, 0, 0}: 0, {3, 0, 0}: 0,
	{1, 1, 0}: 1, {2, 1, 0}: 2, {3, 1, 0}: 3, {2, 2, 0}: 3, {3, 2, 0}: 4, {3, 3, 0}: 5,
	{1, 1, 1}: 2, {2, 1, 1}: 3, {3, 1, 1}: 4, {2, 2, 1}: 4, {3, 2, 1}: 5, {3, 3, 1}: 6,
	{2, 2, 2}: 5, {3, 2, 2}: 6, {3, 3, 2}: 7, {3, 3, 3}: 8,
}

// bestByHand has values, and the best set.
var bestByHand = []struct {
	steps int
	row   []int
	set   int
}{
	{1, []int{1, 1}, 1}, {1, []int{1, 1, 0}, 1}, {1, []int{1, 0, 1}, 1}, {1, []int{0, 1, 1}, 2}, {1, []int{1, 1, 1}, 1},
	{2, []int{2, 2}, 1}, {2, []int{2, 1}, 1}, {2, []int{1, 2}, 1}, {2, []int{0, 2, 1}, 2}, {2, []int{0, 2, 2}, 2}, {2, []int{2, 0, 2}, 1}, {2, []int{2, 2, 1}, 1}, {2, []int{1, 1, 1}, 1},
	{3, []int{3, 3}, 1}, {3, []int{3, 1}, 1}, {3, []int{1, 3}, 1}, {3, []int{0, 1, 3}, 2}, {3, []int{0, 3, 3}, 2}, {3, []int{3, 3, 3}, 1},
}

// eachGame calls a function for all values of all games.
func eachGame(check func(steps int, row []int)) {
	for _, steps := range gameChains {
		for length := 1; length <= 3; length++ {
			for _, row := range allRows(steps, length) {
				check(steps, row)
			}
		}
	}
}

// eachGameSet calls a function for all values of all games, and for each set of their numbers.
func eachGameSet(check func(steps int, row []int, set int)) {
	eachGame(func(steps int, row []int) {
		for set := range 1 << len(row) {
			check(steps, row, set)
		}
	})
}

// eachGameQuestions calls a function for all values of all games, and for each number of questions.
func eachGameQuestions(check func(steps int, row []int, questions int)) {
	eachGame(func(steps int, row []int) {
		for questions := 0; questions <= 12; questions++ {
			check(steps, row, questions)
		}
	})
}

// eachNoGame calls a function for what is no game: no values, too many, numbers that are none, or where there is no chain, or one that is too long.
func eachNoGame(check func(steps int, row []int)) {
	eachNoRow(check)
	for _, steps := range noGameSteps {
		for _, row := range [][]int{nil, {}, {0}, {1}, {0, 0}, {1, 1}, {0, 1}, {1, 0, 1}, {1, 1, 1}, {0, 0, 0}, {3, 3, 3}, {4, 4}, {steps}, {steps, steps}, {0, 0, steps}} {
			check(steps, row)
		}
	}
	for _, steps := range gameChains {
		for length := 4; length <= 12; length++ {
			check(steps, noughts(length))
			check(steps, slices.Repeat([]int{1}, length))
			check(steps, slices.Repeat([]int{steps}, length))
			check(steps, append([]int{steps}, noughts(length-1)...))
		}
		for length := 1; length <= 3; length++ {
			for place := range length {
				for _, v := range noPlaces(steps) {
					check(steps, changedAt(slices.Repeat([]int{1}, length), place, v))
				}
			}
			check(steps, slices.Repeat([]int{math.MinInt}, length))
			check(steps, slices.Repeat([]int{math.MaxInt}, length))
		}
	}
}

// badGameSets returns numbers that are no sets of so many numbers: they are below 0, or have a number that is not there.
func badGameSets(length int) []int {
	beyond := 1 << length
	list := []int{math.MinInt, math.MinInt + 1, math.MinInt + 2, math.MinInt32, -256, -255, -beyond, 1 - beyond, -3, -2, -1, 2 * beyond, 16, 63, 64, 128, 255, 256, 257, 1 << 32, 1<<32 + 1, 1 << 62, math.MaxInt32, math.MaxInt - 1, math.MaxInt}
	for set := range beyond {
		list = append(list, set+beyond, set-beyond, set+1<<32, set+1<<62, set+math.MinInt)
	}
	return list
}

// afterInWords returns the values after an answer, as the document says it.
func afterInWords(row []int, set int, yes bool) []int {
	after := noughts(len(row))
	for place, v := range row {
		spokenFor := set/(1<<place)%2 == 1
		if !yes {
			spokenFor = !spokenFor
		}
		switch {
		case spokenFor:
			after[place] = v
		case v > 0:
			after[place] = v - 1
		}
	}
	return after
}

// leftInWords counts the values that are not 0.
func leftInWords(row []int) int {
	left := 0
	for _, v := range row {
		if v > 0 {
			left++
		}
	}
	return left
}

// chosen returns how many sets there are of so many of the questions.
func chosen(questions, size int) int {
	if size == 0 {
		return 1
	}
	if questions == 0 {
		return 0
	}
	return chosen(questions-1, size) + chosen(questions-1, size-1)
}

// weightInWords adds up the sets of fewer questions than each value.
func weightInWords(row []int, questions int) int {
	weight := 0
	for _, v := range row {
		for size := range v {
			weight += chosen(questions, size)
		}
	}
	return weight
}

// enoughInWords tells whether so many questions are enough, as the document says it; what it tells is kept by keyOf and the number of questions.
func enoughInWords(kept map[string]bool, row []int, questions int) bool {
	if questions == 0 {
		return leftInWords(row) <= 1
	}
	key := keyOf(append([]int{questions}, row...))
	if enough, ok := kept[key]; ok {
		return enough
	}
	enough := enoughInWords(kept, row, questions-1)
	for set := range 1 << len(row) {
		both := enoughInWords(kept, afterInWords(row, set, true), questions-1) && enoughInWords(kept, afterInWords(row, set, false), questions-1)
		enough = enough || both
	}
	kept[key] = enough
	return enough
}

// fewestOfHand returns from fewestByHand how many questions are enough for values in any order.
func fewestOfHand(row []int) int {
	ordered := slices.Sorted(slices.Values(row))
	var key [3]int
	for i := range ordered {
		key[i] = ordered[len(ordered)-1-i]
	}
	return fewestByHand[key]
}

// checkGame checks GameOk.
func checkGame(t *testing.T, steps int, row []int, want bool) {
	t.Helper()
	if got := impl.GameOk(steps, row); got != want {
		t.Errorf("GameOk(%d, %v) (%d values) is %v", steps, shownRow(row), len(row), got)
	}
}

// checkAnswer checks AnswerTo.
func checkAnswer(t *testing.T, steps int, row []int, set int, yes bool, want []int) {
	t.Helper()
	if got := impl.AnswerTo(steps, row, set, yes); !slices.Equal(got, want) {
		t.Errorf("AnswerTo(%d, %v, %d, %v) (%d values) is %v, not %v", steps, shownRow(row), set, yes, len(row), shownRow(got), want)
	}
}

// checkLeft checks LeftOf.
func checkLeft(t *testing.T, steps int, row []int, want int) {
	t.Helper()
	if got := impl.LeftOf(steps, row); got != want {
		t.Errorf("LeftOf(%d, %v) (%d values) is %d, not %d", steps, shownRow(row), len(row), got, want)
	}
}

// checkWeight checks WeightOf.
func checkWeight(t *testing.T, steps int, row []int, questions, want int) {
	t.Helper()
	if got := impl.WeightOf(steps, row, questions); got != want {
		t.Errorf("WeightOf(%d, %v, %d) (%d values) is %d, not %d", steps, shownRow(row), questions, len(row), got, want)
	}
}

// checkEnough checks EnoughOk.
func checkEnough(t *testing.T, steps int, row []int, questions int, want bool) {
	t.Helper()
	if got := impl.EnoughOk(steps, row, questions); got != want {
		t.Errorf("EnoughOk(%d, %v, %d) (%d values) is %v", steps, shownRow(row), questions, len(row), got)
	}
}

// checkFewest checks FewestOf, and that there is none for -1.
func checkFewest(t *testing.T, steps int, row []int, want int) {
	t.Helper()
	if got, ok := impl.FewestOf(steps, row); got != want || ok != (want >= 0) {
		t.Errorf("FewestOf(%d, %v) (%d values) is %d, %v, not %d", steps, shownRow(row), len(row), got, ok, want)
	}
}

// checkBest checks BestSet, and that there is none for -1.
func checkBest(t *testing.T, steps int, row []int, want int) {
	t.Helper()
	if got, ok := impl.BestSet(steps, row); got != want || ok != (want >= 0) {
		t.Errorf("BestSet(%d, %v) (%d values) is %d, %v, not %d", steps, shownRow(row), len(row), got, ok, want)
	}
}

// staysAsItIs checks that a function writes neither to a row that it is handed, nor behind it.
func staysAsItIs(t *testing.T, use func(steps int, row []int)) {
	t.Helper()
	for _, row := range [][]int{nil, {0}, {1}, {3}, {0, 0}, {1, 1}, {2, 1}, {3, 3}, {0, 0, 0}, {1, 1, 1}, {0, 2, 1}, {3, 3, 3}, {3, 0, 2}, {4}, {-1, 1}, {1, 1, 9}, {math.MinInt, math.MaxInt}, noughts(4), noughts(8), {1, 2, 3, 1}} {
		for _, steps := range []int{math.MinInt, -1, 0, 1, 2, 3, 4, 6, 7, math.MaxInt} {
			handed := withRoom(row)
			use(steps, handed)
			if want := withRoom(row); len(handed) != len(row) || !slices.Equal(handed[:cap(handed)], want[:cap(handed)]) {
				t.Errorf("chain of %d steps: %v has become %v", steps, want[:cap(handed)], handed[:cap(handed)])
			}
		}
	}
}

func TestMaxThought(t *testing.T) {
	if impl.MaxThought != 3 {
		t.Errorf("MaxThought is %d", impl.MaxThought)
	}
}

// P51: The order of answers does not matter.
func TestP51AnswersByHand(t *testing.T) {
	for _, x := range answersByHand {
		checkAnswer(t, x.steps, x.row, x.set, true, x.yes)
		checkAnswer(t, x.steps, x.row, x.set, false, x.no)
	}
}

func TestP51AnswersInWords(t *testing.T) {
	eachGameSet(func(steps int, row []int, set int) {
		checkAnswer(t, steps, row, set, true, afterInWords(row, set, true))
		checkAnswer(t, steps, row, set, false, afterInWords(row, set, false))
	})
}

func TestP51TakenTogether(t *testing.T) {
	eachGameSet(func(steps int, row []int, set int) {
		yes, no := slices.Clone(row), slices.Clone(row)
		for place, v := range row {
			less := impl.TimesOf(steps, v, steps-1)
			if set>>place&1 == 1 {
				no[place] = less
			} else {
				yes[place] = less
			}
		}
		checkAnswer(t, steps, row, set, true, yes)
		checkAnswer(t, steps, row, set, false, no)
	})
}

func TestP51AnyOrder(t *testing.T) {
	eachGameSet(func(steps int, row []int, set int) {
		for other := range 1 << len(row) {
			for _, first := range []bool{true, false} {
				for _, second := range []bool{true, false} {
					there := impl.AnswerTo(steps, impl.AnswerTo(steps, row, set, first), other, second)
					checkAnswer(t, steps, impl.AnswerTo(steps, row, other, second), set, first, there)
					if len(there) != len(row) {
						t.Errorf("chain of %d steps: of %v two answers leave %v", steps, row, there)
					}
				}
			}
		}
	})
}

func TestP51YesIsNoToAllOthers(t *testing.T) {
	eachGameSet(func(steps int, row []int, set int) {
		others := 1<<len(row) - 1 - set
		checkAnswer(t, steps, row, others, false, impl.AnswerTo(steps, row, set, true))
		checkAnswer(t, steps, row, others, true, impl.AnswerTo(steps, row, set, false))
	})
}

func TestP51EmptyAndAll(t *testing.T) {
	eachGame(func(steps int, row []int) {
		all, less := 1<<len(row)-1, slices.Clone(row)
		for place := range less {
			less[place] = max(0, less[place]-1)
		}
		checkAnswer(t, steps, row, 0, true, less)
		checkAnswer(t, steps, row, 0, false, row)
		checkAnswer(t, steps, row, all, true, row)
		checkAnswer(t, steps, row, all, false, less)
	})
}

func TestP51OthersAreNoSets(t *testing.T) {
	eachGame(func(steps int, row []int) {
		for _, set := range badGameSets(len(row)) {
			checkAnswer(t, steps, row, set, true, nil)
			checkAnswer(t, steps, row, set, false, nil)
		}
		for set := -40; set <= 40; set++ {
			if set < 0 || set >= 1<<len(row) {
				checkAnswer(t, steps, row, set, true, nil)
				checkAnswer(t, steps, row, set, false, nil)
			}
		}
	})
}

func TestP51OthersAreNotAnswered(t *testing.T) {
	eachNoGame(func(steps int, row []int) {
		for _, set := range []int{math.MinInt, -1, 0, 1, 2, 3, 7, 8, math.MaxInt} {
			checkAnswer(t, steps, row, set, true, nil)
			checkAnswer(t, steps, row, set, false, nil)
		}
	})
}

func TestP51NewMemory(t *testing.T) {
	eachGameSet(func(steps int, row []int, set int) {
		for _, yes := range []bool{true, false} {
			handed := withRoom(row)
			first, second := impl.AnswerTo(steps, handed, set, yes), impl.AnswerTo(steps, handed, set, yes)
			whole := first[:cap(first)]
			for place := range whole {
				whole[place] = -9
			}
			if want := withRoom(row); !slices.Equal(handed[:cap(handed)], want[:cap(handed)]) {
				t.Errorf("AnswerTo(%d, %v, %d, %v): writing to the result changes what was handed over to %v", steps, row, set, yes, handed[:cap(handed)])
			}
			if !slices.Equal(second, afterInWords(row, set, yes)) {
				t.Errorf("AnswerTo(%d, %v, %d, %v): writing to one result changes another one to %v", steps, row, set, yes, second)
			}
			handed[0] = -9
			if !slices.Equal(second, afterInWords(row, set, yes)) {
				t.Errorf("AnswerTo(%d, %v, %d, %v): writing to what was handed over changes the result to %v", steps, row, set, yes, second)
			}
		}
	})
}

func TestP51RowsStayAsTheyAre(t *testing.T) {
	staysAsItIs(t, func(steps int, row []int) {
		for set := -1; set <= 8; set++ {
			impl.AnswerTo(steps, row, set, true)
			impl.AnswerTo(steps, row, set, false)
		}
	})
}

// P52: Answers leave no more.
func TestP52LeftByHand(t *testing.T) {
	for _, x := range []struct {
		steps int
		row   []int
		want  int
	}{
		{1, []int{0}, 0}, {1, []int{1}, 1}, {2, []int{1}, 1}, {3, []int{3}, 1}, {3, []int{2}, 1}, {1, []int{0, 0}, 0}, {1, []int{0, 1}, 1}, {1, []int{1, 0}, 1}, {1, []int{1, 1}, 2},
		{2, []int{2, 2}, 2}, {3, []int{3, 0}, 1}, {3, []int{0, 0, 0}, 0}, {3, []int{0, 2, 0}, 1}, {3, []int{0, 0, 1}, 1}, {3, []int{3, 0, 2}, 2}, {3, []int{1, 2, 3}, 3}, {1, []int{1, 1, 1}, 3}, {2, []int{2, 1, 0}, 2},
	} {
		checkLeft(t, x.steps, x.row, x.want)
	}
}

func TestP52LeftInWords(t *testing.T) {
	eachGame(func(steps int, row []int) { checkLeft(t, steps, row, leftInWords(row)) })
}

func TestP52NoMoreAfterAnswers(t *testing.T) {
	fewer := 0
	eachGameSet(func(steps int, row []int, set int) {
		before := impl.LeftOf(steps, row)
		for _, yes := range []bool{true, false} {
			after := impl.LeftOf(steps, impl.AnswerTo(steps, row, set, yes))
			if after > before || after < 0 {
				t.Errorf("chain of %d steps: of %v an answer to %d leaves %d, not at most %d", steps, row, set, after, before)
			}
			if after < before {
				fewer++
			}
		}
	})
	if fewer == 0 {
		t.Error("no answer leaves fewer")
	}
}

func TestP52NoneIsLeftExactlyOfNoughts(t *testing.T) {
	eachGame(func(steps int, row []int) {
		if left := impl.LeftOf(steps, row); (left == 0) != slices.Equal(row, noughts(len(row))) {
			t.Errorf("LeftOf(%d, %v) is %d", steps, row, left)
		}
	})
}

func TestP52OthersLeaveNothing(t *testing.T) {
	checkLeft(t, 0, nil, -1)
	eachNoGame(func(steps int, row []int) { checkLeft(t, steps, row, -1) })
}

func TestP52RowsStayAsTheyAre(t *testing.T) {
	staysAsItIs(t, func(steps int, row []int) { impl.LeftOf(steps, row) })
}

// P53: Questions share out the weight.
func TestP53WeightsByHand(t *testing.T) {
	for _, x := range weightsByHand {
		for questions, want := range x.weights {
			checkWeight(t, x.steps, x.row, questions, want)
		}
	}
	for v, weights := range lateWeightsByHand {
		for i, want := range weights {
			checkWeight(t, 3, []int{v}, 7+i, want)
			checkWeight(t, 3, []int{v, 0, 1}, 7+i, want+1)
			checkWeight(t, 3, []int{v, v, v}, 7+i, 3*want)
		}
	}
}

func TestP53WeightsInWords(t *testing.T) {
	eachGameQuestions(func(steps int, row []int, questions int) {
		checkWeight(t, steps, row, questions, weightInWords(row, questions))
	})
}

func TestP53SharedOut(t *testing.T) {
	eachGameSet(func(steps int, row []int, set int) {
		yes, no := impl.AnswerTo(steps, row, set, true), impl.AnswerTo(steps, row, set, false)
		for questions := range 12 {
			checkWeight(t, steps, row, questions+1, impl.WeightOf(steps, yes, questions)+impl.WeightOf(steps, no, questions))
		}
	})
}

func TestP53BeforeNoneHowManyAreLeft(t *testing.T) {
	eachGame(func(steps int, row []int) { checkWeight(t, steps, row, 0, impl.LeftOf(steps, row)) })
}

func TestP53ChainsDoNotMatter(t *testing.T) {
	eachGameQuestions(func(steps int, row []int, questions int) {
		for longer := steps; longer <= 3; longer++ {
			checkWeight(t, longer, row, questions, impl.WeightOf(steps, row, questions))
		}
	})
}

func TestP53OthersHaveNoQuestions(t *testing.T) {
	eachGame(func(steps int, row []int) {
		for _, questions := range noQuestions {
			checkWeight(t, steps, row, questions, -1)
		}
	})
}

func TestP53OthersHaveNoWeight(t *testing.T) {
	eachNoGame(func(steps int, row []int) {
		for _, questions := range []int{math.MinInt, -1, 0, 1, 6, 12, 13, math.MaxInt} {
			checkWeight(t, steps, row, questions, -1)
		}
	})
}

func TestP53RowsStayAsTheyAre(t *testing.T) {
	staysAsItIs(t, func(steps int, row []int) {
		for questions := -1; questions <= 13; questions++ {
			impl.WeightOf(steps, row, questions)
		}
	})
}

// P54: No fewer questions than the weight tells.
func TestP54EnoughByHand(t *testing.T) {
	for _, x := range []struct {
		steps     int
		row       []int
		questions int
		want      bool
	}{
		{1, []int{1}, 0, true}, {1, []int{0}, 0, true}, {3, []int{3}, 0, true}, {3, []int{0, 3}, 0, true}, {3, []int{0, 0, 0}, 0, true}, {3, []int{0, 0, 0}, 12, true}, {3, []int{0, 2, 0}, 0, true},
		{1, []int{1, 1}, 0, false}, {1, []int{1, 1}, 1, true}, {1, []int{1, 1, 1}, 1, false}, {1, []int{1, 1, 1}, 2, true}, {1, []int{1, 0, 1}, 0, false}, {1, []int{1, 0, 1}, 1, true},
		{2, []int{2, 2}, 2, false}, {2, []int{2, 2}, 3, true}, {2, []int{2, 1}, 1, false}, {2, []int{2, 1}, 2, true}, {2, []int{2, 2, 1}, 3, false}, {2, []int{2, 2, 1}, 4, true},
		{3, []int{3, 3}, 4, false}, {3, []int{3, 3}, 5, true}, {3, []int{3, 3, 3}, 7, false}, {3, []int{3, 3, 3}, 8, true}, {3, []int{3, 3, 3}, 12, true}, {3, []int{3, 3, 3}, 0, false},
	} {
		checkEnough(t, x.steps, x.row, x.questions, x.want)
	}
}

func TestP54EnoughInWords(t *testing.T) {
	kept := map[string]bool{}
	eachGameQuestions(func(steps int, row []int, questions int) {
		checkEnough(t, steps, row, questions, enoughInWords(kept, row, questions))
	})
}

// None are enough if at most one number is left, and one more is if it is, or if there is a set so that it is for both answers.
func TestP54EnoughOfItsOwnAnswers(t *testing.T) {
	eachGame(func(steps int, row []int) {
		checkEnough(t, steps, row, 0, impl.LeftOf(steps, row) <= 1)
		for questions := 1; questions <= 9; questions++ {
			want := impl.EnoughOk(steps, row, questions-1)
			for set := range 1 << len(row) {
				yes, no := impl.AnswerTo(steps, row, set, true), impl.AnswerTo(steps, row, set, false)
				want = want || impl.EnoughOk(steps, yes, questions-1) && impl.EnoughOk(steps, no, questions-1)
			}
			checkEnough(t, steps, row, questions, want)
		}
	})
}

func TestP54WeightTells(t *testing.T) {
	fewer := 0
	eachGameQuestions(func(steps int, row []int, questions int) {
		enough, light := impl.EnoughOk(steps, row, questions), impl.WeightOf(steps, row, questions) <= 1<<questions
		if enough && !light {
			t.Errorf("EnoughOk(%d, %v, %d), but the weight is %d", steps, row, questions, impl.WeightOf(steps, row, questions))
		}
		if light && !enough {
			fewer++
		}
	})
	if fewer == 0 {
		t.Error("as many questions as the weight tells are always enough")
	}
}

// The weight of these is at most 2 to the power of the questions, and the questions are not enough all the same.
func TestP54WeightDoesNotTellAll(t *testing.T) {
	checkWeight(t, 2, []int{2, 2, 2}, 4, 15)
	checkEnough(t, 2, []int{2, 2, 2}, 4, false)
	checkEnough(t, 2, []int{2, 2, 2}, 5, true)
	checkWeight(t, 3, []int{3, 3, 3}, 6, 66)
	checkWeight(t, 3, []int{3, 3, 3}, 7, 87)
	checkEnough(t, 3, []int{3, 3, 3}, 7, false)
	checkEnough(t, 3, []int{3, 3, 3}, 8, true)
}

func TestP54OneQuestionMore(t *testing.T) {
	eachGame(func(steps int, row []int) {
		for questions := range 12 {
			if impl.EnoughOk(steps, row, questions) {
				checkEnough(t, steps, row, questions+1, true)
			}
		}
		checkEnough(t, steps, row, 12, true)
	})
}

func TestP54OthersHaveNoQuestions(t *testing.T) {
	eachGame(func(steps int, row []int) {
		for _, questions := range noQuestions {
			checkEnough(t, steps, row, questions, false)
		}
	})
}

func TestP54OfOthersNothingIsEnough(t *testing.T) {
	eachNoGame(func(steps int, row []int) {
		for _, questions := range []int{math.MinInt, -1, 0, 1, 6, 12, 13, math.MaxInt} {
			checkEnough(t, steps, row, questions, false)
		}
	})
}

func TestP54RowsStayAsTheyAre(t *testing.T) {
	staysAsItIs(t, func(steps int, row []int) {
		for questions := -1; questions <= 13; questions++ {
			impl.EnoughOk(steps, row, questions)
		}
	})
}

// P55: Without lies numbers are halved.
func TestP55FewestByHand(t *testing.T) {
	eachGame(func(steps int, row []int) { checkFewest(t, steps, row, fewestOfHand(row)) })
}

func TestP55OneStep(t *testing.T) {
	eachGame(func(steps int, row []int) {
		if steps == 1 {
			checkFewest(t, steps, row, []int{0, 0, 1, 2}[impl.LeftOf(steps, row)])
		}
	})
}

func TestP55TwoThatAreTrue(t *testing.T) {
	for _, steps := range gameChains {
		checkFewest(t, steps, []int{steps, steps}, 2*steps-1)
		checkFewest(t, steps, []int{steps, steps, 0}, 2*steps-1)
		checkFewest(t, steps, []int{steps, 0, steps}, 2*steps-1)
		checkFewest(t, steps, []int{0, steps, steps}, 2*steps-1)
	}
}

func TestP55OneFewerIsNotEnough(t *testing.T) {
	eachGameQuestions(func(steps int, row []int, questions int) {
		fewest, ok := impl.FewestOf(steps, row)
		if !ok || impl.EnoughOk(steps, row, questions) != (questions >= fewest) {
			t.Errorf("FewestOf(%d, %v) is %d, %v, but EnoughOk of %d is not so", steps, row, fewest, ok, questions)
		}
	})
}

func TestP55OneLeftAndNone(t *testing.T) {
	for _, steps := range gameChains {
		for length := 1; length <= 3; length++ {
			checkFewest(t, steps, noughts(length), 0)
			for place := range length {
				for v := 1; v <= steps; v++ {
					checkFewest(t, steps, changedAt(noughts(length), place, v), 0)
				}
			}
		}
	}
}

func TestP55OthersHaveNone(t *testing.T) {
	eachNoGame(func(steps int, row []int) { checkFewest(t, steps, row, -1) })
}

func TestP55RowsStayAsTheyAre(t *testing.T) {
	staysAsItIs(t, func(steps int, row []int) { impl.FewestOf(steps, row) })
}

// P56: The best question leaves one fewer.
func TestP56BestByHand(t *testing.T) {
	for _, x := range bestByHand {
		checkBest(t, x.steps, x.row, x.set)
	}
}

func TestP56BestInWords(t *testing.T) {
	kept := map[string]bool{}
	eachGame(func(steps int, row []int) {
		fewest, want := fewestOfHand(row), -1
		for set := 0; set < 1<<len(row) && fewest > 0 && want < 0; set++ {
			if enoughInWords(kept, afterInWords(row, set, true), fewest-1) && enoughInWords(kept, afterInWords(row, set, false), fewest-1) {
				want = set
			}
		}
		if (want < 0) != (leftInWords(row) <= 1) {
			t.Errorf("in words the best set of %v is %d", row, want)
		}
		checkBest(t, steps, row, want)
	})
}

func TestP56OneFewerAfterBoth(t *testing.T) {
	eachGame(func(steps int, row []int) {
		set, ok := impl.BestSet(steps, row)
		if !ok {
			return
		}
		fewest, _ := impl.FewestOf(steps, row)
		yes, yesOk := impl.FewestOf(steps, impl.AnswerTo(steps, row, set, true))
		no, noOk := impl.FewestOf(steps, impl.AnswerTo(steps, row, set, false))
		if !yesOk || !noOk || max(yes, no) != fewest-1 {
			t.Errorf("BestSet(%d, %v) is %d: after yes %d questions are needed, and after no %d, before it %d", steps, row, set, yes, no, fewest)
		}
	})
}

func TestP56NoneIsBefore(t *testing.T) {
	eachGame(func(steps int, row []int) {
		best, ok := impl.BestSet(steps, row)
		if !ok {
			return
		}
		fewest, _ := impl.FewestOf(steps, row)
		for set := range best {
			if impl.EnoughOk(steps, impl.AnswerTo(steps, row, set, true), fewest-1) && impl.EnoughOk(steps, impl.AnswerTo(steps, row, set, false), fewest-1) {
				t.Errorf("BestSet(%d, %v) is %d, but %d is as good", steps, row, best, set)
			}
		}
	})
}

func TestP56NoneIsNeeded(t *testing.T) {
	eachGame(func(steps int, row []int) {
		if impl.LeftOf(steps, row) <= 1 {
			checkBest(t, steps, row, -1)
		} else if _, ok := impl.BestSet(steps, row); !ok {
			t.Errorf("BestSet(%d, %v) tells false", steps, row)
		}
	})
}

// checkPlayed checks that at most one number is left after so many best questions, whatever is answered.
func checkPlayed(t *testing.T, steps int, row []int, questions int) {
	t.Helper()
	set, ok := impl.BestSet(steps, row)
	if !ok {
		if left := impl.LeftOf(steps, row); left < 0 || left > 1 {
			t.Errorf("chain of %d steps: no question is told for %v", steps, row)
		}
		return
	}
	if questions == 0 {
		t.Errorf("chain of %d steps: no question is left for %v", steps, row)
		return
	}
	checkPlayed(t, steps, impl.AnswerTo(steps, row, set, true), questions-1)
	checkPlayed(t, steps, impl.AnswerTo(steps, row, set, false), questions-1)
}

func TestP56Played(t *testing.T) {
	eachGame(func(steps int, row []int) { checkPlayed(t, steps, row, fewestOfHand(row)) })
}

func TestP56OthersHaveNone(t *testing.T) {
	eachNoGame(func(steps int, row []int) { checkBest(t, steps, row, -1) })
}

func TestP56RowsStayAsTheyAre(t *testing.T) {
	staysAsItIs(t, func(steps int, row []int) { impl.BestSet(steps, row) })
}

// P65: One number is a game.
func TestP65OneNumber(t *testing.T) {
	for _, steps := range gameChains {
		checkGame(t, steps, []int{steps}, true)
		for v := -5; v <= 9; v++ {
			checkGame(t, steps, []int{v}, v >= 0 && v <= steps)
		}
	}
}

func TestP65AllGames(t *testing.T) {
	count := 0
	eachGame(func(steps int, row []int) {
		checkGame(t, steps, row, true)
		checkGame(t, steps, withRoom(row), true)
		count++
	})
	if count != 2+4+8+3+9+27+4+16+64 {
		t.Errorf("%d games", count)
	}
}

func TestP65ThreeNumbersAtMost(t *testing.T) {
	for steps := -2; steps <= 9; steps++ {
		for length := range 12 {
			for v := -2; v <= 8; v++ {
				ok := 1 <= steps && steps <= 3 && 1 <= length && length <= 3 && 0 <= v && v <= steps
				checkGame(t, steps, slices.Repeat([]int{v}, length), ok)
			}
		}
	}
}

func TestP65OnePlace(t *testing.T) {
	for _, steps := range gameChains {
		for length := 1; length <= 3; length++ {
			for place := range length {
				for v := -4; v <= 8; v++ {
					checkGame(t, steps, changedAt(noughts(length), place, v), v >= 0 && v <= steps)
				}
			}
		}
	}
}

func TestP65OthersAreNoGames(t *testing.T) {
	eachNoGame(func(steps int, row []int) { checkGame(t, steps, row, false) })
}

func TestP65RowsStayAsTheyAre(t *testing.T) {
	staysAsItIs(t, func(steps int, row []int) { impl.GameOk(steps, row) })
}
