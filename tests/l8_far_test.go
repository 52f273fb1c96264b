package tests

import (
	"math"
	"math/rand"
	"slices"
	"strings"
	"testing"

	"loop.example/manyvalues/impl"
)

// farByHand has, for some chains, how far each value (by rows) is apart from each other one.
var farByHand = map[int][][]int{
	1: {{0, 1}, {1, 0}},
	2: {{0, 1, 2}, {1, 0, 1}, {2, 1, 0}},
	3: {{0, 1, 2, 3}, {1, 0, 1, 2}, {2, 1, 0, 1}, {3, 2, 1, 0}},
	6: {{0, 1, 2, 3, 4, 5, 6}, {1, 0, 1, 2, 3, 4, 5}, {2, 1, 0, 1, 2, 3, 4}, {3, 2, 1, 0, 1, 2, 3}, {4, 3, 2, 1, 0, 1, 2}, {5, 4, 3, 2, 1, 0, 1}, {6, 5, 4, 3, 2, 1, 0}},
}

// alikeByHand has, for some chains, how alike each value (by rows) and each other one are.
var alikeByHand = map[int][][]int{
	1: {{1, 0}, {0, 1}},
	2: {{2, 1, 0}, {1, 2, 1}, {0, 1, 2}},
	3: {{3, 2, 1, 0}, {2, 3, 2, 1}, {1, 2, 3, 2}, {0, 1, 2, 3}},
	6: {{6, 5, 4, 3, 2, 1, 0}, {5, 6, 5, 4, 3, 2, 1}, {4, 5, 6, 5, 4, 3, 2}, {3, 4, 5, 6, 5, 4, 3}, {2, 3, 4, 5, 6, 5, 4}, {1, 2, 3, 4, 5, 6, 5}, {0, 1, 2, 3, 4, 5, 6}},
}

// rowsByHand has pairs of rows, how far they are apart, and how alike they are.
var rowsByHand = []struct {
	rowPair
	far, alike int
}{
	{rowPair{1, []int{0}, []int{0}}, 0, 1}, {rowPair{1, []int{0}, []int{1}}, 1, 0}, {rowPair{6, []int{0}, []int{6}}, 6, 0}, {rowPair{6, []int{2}, []int{4}}, 2, 4}, {rowPair{4, []int{3}, []int{3}}, 0, 4},
	{rowPair{3, []int{0, 3, 1}, []int{1, 1, 1}}, 3, 1}, {rowPair{3, []int{0, 3, 1}, []int{0, 3, 1}}, 0, 3}, {rowPair{3, []int{0, 1, 2}, []int{1, 2, 0}}, 4, 1}, {rowPair{3, []int{0, 1, 2, 3}, []int{3, 2, 1, 0}}, 8, 0},
	{rowPair{2, []int{1, 1}, []int{0, 2}}, 2, 1}, {rowPair{2, []int{0, 2}, []int{2, 0}}, 4, 0}, {rowPair{4, []int{1, 4, 0}, []int{2, 2, 1}}, 4, 2}, {rowPair{5, []int{5, 0, 3, 2}, []int{4, 1, 2, 3}}, 4, 4},
	{rowPair{1, []int{0, 0, 0, 0, 0, 0, 0}, []int{1, 1, 1, 1, 1, 1, 1}}, 7, 0}, {rowPair{1, []int{0, 1, 0, 1, 0, 1, 0}, []int{0, 1, 0, 0, 0, 1, 0}}, 1, 0}, {rowPair{6, []int{0, 0, 0, 0, 0, 0, 0}, []int{6, 6, 6, 6, 6, 6, 6}}, 42, 0},
	{rowPair{6, []int{0, 1, 2, 3, 4, 5, 6}, []int{0, 1, 2, 3, 4, 5, 6}}, 0, 6}, {rowPair{6, []int{0, 1, 2, 3, 4, 5, 6}, []int{6, 5, 4, 3, 2, 1, 0}}, 24, 0}, {rowPair{6, []int{0, 1, 2, 3, 4, 5, 6}, []int{1, 2, 3, 4, 5, 6, 5}}, 7, 5},
	{rowPair{6, []int{0, 1, 2, 3, 4, 5, 6}, []int{4, 1, 2, 3, 4, 5, 6}}, 4, 2}, {rowPair{6, []int{0, 1, 2, 3, 4, 5, 6}, []int{0, 1, 2, 3, 4, 5, 1}}, 5, 1}, {rowPair{6, []int{0, 1, 2, 3, 4, 5, 6}, []int{0, 1, 2, 6, 4, 5, 6}}, 3, 3},
}

// movesByHand has, for formulas, how far they move in the chains from one step to six.
var movesByHand = map[string][]int{
	"a": {1, 1, 1, 1, 1, 1}, "!a": {1, 1, 1, 1, 1, 1}, "!!a": {1, 1, 1, 1, 1, 1}, "b": {0, 0, 0, 0, 0, 0}, "c": {0, 0, 0, 0, 0, 0}, "0": {0, 0, 0, 0, 0, 0}, "1": {0, 0, 0, 0, 0, 0},
	"(b>c)": {0, 0, 0, 0, 0, 0}, "(b+b)": {0, 0, 0, 0, 0, 0}, "!(c*(b|c))": {0, 0, 0, 0, 0, 0}, "(0>1)": {0, 0, 0, 0, 0, 0},
	"(a>b)": {1, 1, 1, 1, 1, 1}, "(b>a)": {1, 1, 1, 1, 1, 1}, "(a+b)": {1, 1, 1, 1, 1, 1}, "(c+a)": {1, 1, 1, 1, 1, 1}, "(a*b)": {1, 1, 1, 1, 1, 1}, "(a&c)": {1, 1, 1, 1, 1, 1}, "(c|a)": {1, 1, 1, 1, 1, 1},
	"(a>a)": {0, 0, 0, 0, 0, 0}, "(a+!a)": {0, 0, 0, 0, 0, 0}, "(a*!a)": {0, 0, 0, 0, 0, 0}, "(a*0)": {0, 0, 0, 0, 0, 0}, "(a+1)": {0, 0, 0, 0, 0, 0}, "(a>(b>a))": {0, 0, 0, 0, 0, 0},
	"(a&a)": {1, 1, 1, 1, 1, 1}, "(a|a)": {1, 1, 1, 1, 1, 1}, "(a&!a)": {0, 1, 1, 1, 1, 1}, "(a|!a)": {0, 1, 1, 1, 1, 1}, "(a>(a*a))": {0, 1, 1, 1, 1, 1},
	"(a+a)": {1, 2, 2, 2, 2, 2}, "(a*a)": {1, 2, 2, 2, 2, 2}, "(a>!a)": {1, 2, 2, 2, 2, 2}, "((a+b)+a)": {1, 2, 2, 2, 2, 2}, "((a*a)>(b&a))": {1, 2, 2, 2, 2, 2},
	"(a+(a+a))": {1, 2, 3, 3, 3, 3}, "(a*(a*a))": {1, 2, 3, 3, 3, 3}, "((a*a)+(a*a))": {1, 2, 2, 4, 3, 4},
	"((a+a)*(b*!c))": {1, 2, 2, 2, 2, 2}, "((a+a)*(!b*c))": {1, 2, 2, 2, 2, 2}, "((a*a)*(b*c))": {1, 2, 2, 2, 2, 2}, "((a*a)+(b+c))": {1, 2, 2, 2, 2, 2},
	strings.Repeat("!", 59) + "a": {1, 1, 1, 1, 1, 1}, strings.Repeat("!", 59) + "b": {0, 0, 0, 0, 0, 0},
	"!!!" + strings.Repeat("(a+", 14) + "a" + strings.Repeat(")", 14): {1, 2, 3, 4, 5, 6},
	"!!!" + strings.Repeat("(b+", 14) + "c" + strings.Repeat(")", 14): {0, 0, 0, 0, 0, 0},
	"!!!" + strings.Repeat("(0+", 14) + "a" + strings.Repeat(")", 14): {1, 1, 1, 1, 1, 1},
}

// rowPair has two rows of as many values of a chain.
type rowPair struct {
	steps int
	x, y  []int
}

// allRows returns all rows of so many values of a chain.
func allRows(steps, length int) [][]int {
	if length == 0 {
		return [][]int{nil}
	}
	var rows [][]int
	for _, row := range allRows(steps, length-1) {
		for v := 0; v <= steps; v++ {
			rows = append(rows, append(slices.Clone(row), v))
		}
	}
	return rows
}

// changedAt returns a row with another value at a place.
func changedAt(row []int, place, v int) []int {
	changed := slices.Clone(row)
	changed[place] = v
	return changed
}

// noughts returns a row of so many noughts.
func noughts(length int) []int {
	return make([]int, length)
}

// someRow returns a row of so many values of a chain, by a source of numbers.
func someRow(source *rand.Rand, steps, length int) []int {
	row := noughts(length)
	for place := range row {
		row[place] = source.Intn(steps + 1)
	}
	return row
}

// eachRowPair calls a function for pairs of rows of all lengths, in all chains: all pairs of short rows, and some of the others, of which some are equal or differ at one place.
func eachRowPair(check func(p rowPair)) {
	source := rand.New(rand.NewSource(8))
	for _, steps := range allChains {
		for length := 1; length <= 7; length++ {
			if math.Pow(float64(steps+1), float64(length)) <= 64 {
				rows := allRows(steps, length)
				for _, x := range rows {
					for _, y := range rows {
						check(rowPair{steps, x, y})
					}
				}
			}
			for range 40 {
				x := someRow(source, steps, length)
				check(rowPair{steps, x, someRow(source, steps, length)})
				check(rowPair{steps, x, slices.Clone(x)})
				check(rowPair{steps, x, changedAt(x, source.Intn(length), source.Intn(steps+1))})
			}
		}
	}
}

// eachNoRow calls a function for rows that are none of a chain: empty, too long, with a number that is no value, or where there is no chain.
func eachNoRow(check func(steps int, row []int)) {
	for _, steps := range append(slices.Clone(badSteps), allChains...) {
		for _, row := range [][]int{nil, {}, noughts(2)[:0]} {
			check(steps, row)
		}
		for _, length := range []int{8, 9, 14, 64, 256 + 1, 256 + 7, 65536 + 1, 65536 + 7} {
			check(steps, noughts(length))
		}
	}
	check(6, []int{0, 1, 2, 3, 4, 5, 6, 0})
	check(1, noughts(1<<20+1))
	for _, steps := range allChains {
		for _, length := range []int{1, 2, 3, 6, 7} {
			for place := range length {
				for _, v := range badValues(steps) {
					check(steps, changedAt(noughts(length), place, v))
					check(steps, changedAt(slices.Repeat([]int{steps}, length), place, v))
				}
			}
		}
	}
	for _, steps := range badSteps {
		for _, row := range [][]int{{0}, {1}, {steps}, {0, 0}, {0, 1, 0}, {0, steps}, noughts(7)} {
			check(steps, row)
		}
	}
}

// eachNoRowPair calls a function for two rows of which at least one is none of a chain, and for rows that have not as many values.
func eachNoRowPair(check func(steps int, x, y []int)) {
	eachNoRow(func(steps int, row []int) {
		check(steps, row, slices.Clone(row))
		for _, other := range [][]int{noughts(len(row)), {0}, noughts(7), nil} {
			check(steps, row, other)
			check(steps, other, row)
		}
	})
	for _, steps := range allChains {
		for length := 1; length <= 7; length++ {
			for longer := length + 1; longer <= 8; longer++ {
				check(steps, noughts(length), noughts(longer))
				check(steps, noughts(longer), noughts(length))
				check(steps, slices.Repeat([]int{steps}, length), append(slices.Repeat([]int{steps}, length), noughts(longer-length)...))
			}
		}
	}
}

// apart counts how many steps it is from the lesser one of two values up to the other one.
func apart(a, b int) int {
	count := 0
	for v := range 7 {
		if (a <= v && v < b) || (b <= v && v < a) {
			count++
		}
	}
	return count
}

// farTogether counts how far two rows are apart at all places.
func farTogether(x, y []int) int {
	far := 0
	for place := range x {
		far += apart(x[place], y[place])
	}
	return far
}

// farthestPlace counts how far two rows are apart at the place where they are farthest.
func farthestPlace(x, y []int) int {
	far := 0
	for place := range x {
		far = max(far, apart(x[place], y[place]))
	}
	return far
}

// movesOfBuilt counts, by the values of a built formula alone, how far it moves.
func movesOfBuilt(steps int, x built) int {
	far := 0
	eachTripleOf(steps, func(a, b, c int) {
		if a > 0 {
			far = max(far, apart(x.value(steps, a-1, b, c), x.value(steps, a, b, c)))
		}
	})
	return far
}

// measureByHand checks a measure of two values against tables.
func measureByHand(t *testing.T, name string, measure func(steps, a, b int) int, tables map[int][][]int) {
	t.Helper()
	for steps, table := range tables {
		for a, row := range table {
			for b, want := range row {
				equals(t, name, steps, a, b, measure(steps, a, b), want)
			}
		}
	}
}

// checkRow checks RowOk.
func checkRow(t *testing.T, steps int, row []int, want bool) {
	t.Helper()
	if got := impl.RowOk(steps, row); got != want {
		t.Errorf("RowOk(%d, %v) (%d values) is %v", steps, shownRow(row), len(row), got)
	}
}

// checkRowFar checks RowFar, for both rows exchanged too.
func checkRowFar(t *testing.T, steps int, x, y []int, want int) {
	t.Helper()
	if there, back := impl.RowFar(steps, x, y), impl.RowFar(steps, y, x); there != want || back != want {
		t.Errorf("RowFar(%d, %v, %v) is %d, and exchanged %d, not %d", steps, shownRow(x), shownRow(y), there, back, want)
	}
}

// checkRowAlike checks RowAlike, for both rows exchanged too.
func checkRowAlike(t *testing.T, steps int, x, y []int, want int) {
	t.Helper()
	if there, back := impl.RowAlike(steps, x, y), impl.RowAlike(steps, y, x); there != want || back != want {
		t.Errorf("RowAlike(%d, %v, %v) is %d, and exchanged %d, not %d", steps, shownRow(x), shownRow(y), there, back, want)
	}
}

// checkMoves checks MovesOf.
func checkMoves(t *testing.T, steps int, s string, want int) {
	t.Helper()
	if got := impl.MovesOf(steps, s); got != want {
		t.Errorf("MovesOf(%d, %q) is %d, not %d", steps, shown(s), got, want)
	}
}

// shownRow returns a row for a message, which is short.
func shownRow(row []int) []int {
	return row[:min(len(row), 8)]
}

func TestMaxRow(t *testing.T) {
	if impl.MaxRow != 7 {
		t.Errorf("MaxRow is %d", impl.MaxRow)
	}
}

// P36: Signs bring values no farther apart.
func TestP36FarByHand(t *testing.T) {
	measureByHand(t, "FarOf", impl.FarOf, farByHand)
}

func TestP36FarInWords(t *testing.T) {
	countedInWords(t, "FarOf", impl.FarOf, func(_, a, b int) int { return apart(a, b) })
}

func TestP36NoughtExactlyForEqual(t *testing.T) {
	eachPair(func(steps, a, b int) {
		if far := impl.FarOf(steps, a, b); (far == 0) != (a == b) || far < 0 {
			t.Errorf("FarOf(%d, %d, %d) is %d", steps, a, b, far)
		}
	})
}

func TestP36FalseAndTrue(t *testing.T) {
	for _, steps := range allChains {
		equals(t, "FarOf", steps, 0, steps, impl.FarOf(steps, 0, steps), steps)
		equals(t, "FarOf", steps, steps, 0, impl.FarOf(steps, steps, 0), steps)
		equals(t, "FarOf", steps, 0, 0, impl.FarOf(steps, 0, 0), 0)
		equals(t, "FarOf", steps, steps, steps, impl.FarOf(steps, steps, steps), 0)
	}
}

func TestP36ValueAndOpposite(t *testing.T) {
	for i, row := range [][]int{{1, 1}, {2, 0, 2}, {3, 1, 1, 3}, {4, 2, 0, 2, 4}, {5, 3, 1, 1, 3, 5}, {6, 4, 2, 0, 2, 4, 6}} {
		for a, want := range row {
			opposite := impl.NotOf(i+1, a)
			equals(t, "FarOf", i+1, a, opposite, impl.FarOf(i+1, a, opposite), want)
			equals(t, "FarOf", i+1, opposite, a, impl.FarOf(i+1, opposite, a), want)
		}
	}
}

func TestP36NoShorterOverAThird(t *testing.T) {
	longer := 0
	eachTriple(func(steps, a, b, c int) {
		way, over := impl.FarOf(steps, a, b), impl.FarOf(steps, a, c)+impl.FarOf(steps, c, b)
		between := min(a, b) <= c && c <= max(a, b)
		if over < way || (over == way) != between {
			t.Errorf("chain of %d steps: from %d to %d it is %d, but over %d it is %d", steps, a, b, way, c, over)
		}
		if over > way {
			longer++
		}
	})
	if longer == 0 {
		t.Error("over no third value it is longer")
	}
}

func TestP36OfOppositesTheSame(t *testing.T) {
	eachPair(func(steps, a, b int) {
		equals(t, "how far opposites are apart", steps, a, b, impl.FarOf(steps, impl.NotOf(steps, a), impl.NotOf(steps, b)), impl.FarOf(steps, a, b))
	})
}

func TestP36WithAThirdValueNoGreater(t *testing.T) {
	for _, sign := range signsOfTwo {
		less := 0
		eachTriple(func(steps, a, b, c int) {
			far := impl.FarOf(steps, a, b)
			behind := impl.FarOf(steps, sign.of(steps, a, c), sign.of(steps, b, c))
			ahead := impl.FarOf(steps, sign.of(steps, c, a), sign.of(steps, c, b))
			if behind < 0 || behind > far || ahead < 0 || ahead > far {
				t.Errorf("chain of %d steps: %d and %d are %d apart, but by %s with %d behind %d, and ahead %d", steps, a, b, far, sign.name, c, behind, ahead)
			}
			if behind < far {
				less++
			}
		})
		if less == 0 {
			t.Errorf("by %s nothing comes nearer", sign.name)
		}
	}
}

func TestP36OthersAreNotApart(t *testing.T) {
	eachNoPair(func(steps, a, b int) { equals(t, "FarOf", steps, a, b, impl.FarOf(steps, a, b), -1) })
}

// P37: Alike is to follow both ways.
func TestP37AlikeByHand(t *testing.T) {
	measureByHand(t, "AlikeOf", impl.AlikeOf, alikeByHand)
}

func TestP37AlikeInWords(t *testing.T) {
	countedInWords(t, "AlikeOf", impl.AlikeOf, func(steps, a, b int) int { return steps - apart(a, b) })
}

func TestP37BothThatFollowTogether(t *testing.T) {
	eachPair(func(steps, a, b int) {
		there, back := impl.FollowsOf(steps, a, b), impl.FollowsOf(steps, b, a)
		alike := impl.AlikeOf(steps, a, b)
		equals(t, "both that follow, taken together", steps, a, b, impl.TimesOf(steps, there, back), alike)
		equals(t, "the lesser one of both that follow", steps, a, b, impl.LesserOf(steps, there, back), alike)
	})
}

func TestP37IsWhatIsLeft(t *testing.T) {
	eachPair(func(steps, a, b int) {
		equals(t, "AlikeOf and FarOf, added", steps, a, b, impl.AlikeOf(steps, a, b)+impl.FarOf(steps, a, b), steps)
		equals(t, "AlikeOf, exchanged", steps, a, b, impl.AlikeOf(steps, b, a), impl.AlikeOf(steps, a, b))
	})
}

func TestP37TakenTogetherOverAThird(t *testing.T) {
	more := 0
	eachTriple(func(steps, a, b, c int) {
		alike := impl.AlikeOf(steps, a, b)
		over := impl.TimesOf(steps, impl.AlikeOf(steps, a, c), impl.AlikeOf(steps, c, b))
		if over < 0 || alike < over {
			t.Errorf("chain of %d steps: %d and %d are alike by %d, but over %d by %d", steps, a, b, alike, c, over)
		}
		if alike > over {
			more++
		}
	})
	if more == 0 {
		t.Error("over no third value it is less")
	}
}

func TestP37EqualFalseAndTrue(t *testing.T) {
	eachValue(func(steps, a int) {
		equals(t, "AlikeOf", steps, a, a, impl.AlikeOf(steps, a, a), steps)
		opposite := impl.NotOf(steps, a)
		equals(t, "AlikeOf", steps, a, opposite, impl.AlikeOf(steps, a, opposite), 2*min(a, opposite))
	})
	for _, steps := range allChains {
		equals(t, "AlikeOf", steps, 0, steps, impl.AlikeOf(steps, 0, steps), 0)
		equals(t, "AlikeOf", steps, steps, 0, impl.AlikeOf(steps, steps, 0), 0)
	}
}

func TestP37OthersAreNotAlike(t *testing.T) {
	eachNoPair(func(steps, a, b int) { equals(t, "AlikeOf", steps, a, b, impl.AlikeOf(steps, a, b), -1) })
}

// P38: Rows are as far apart as their places together.
func TestP38RowFarByHand(t *testing.T) {
	for _, p := range rowsByHand {
		checkRowFar(t, p.steps, p.x, p.y, p.far)
	}
}

func TestP38PlacesTogether(t *testing.T) {
	eachRowPair(func(p rowPair) {
		checkRowFar(t, p.steps, p.x, p.y, farTogether(p.x, p.y))
		far := 0
		for place := range p.x {
			far += impl.FarOf(p.steps, p.x[place], p.y[place])
		}
		checkRowFar(t, p.steps, p.x, p.y, far)
	})
}

func TestP38NoughtExactlyForEqual(t *testing.T) {
	equal, others := 0, 0
	eachRowPair(func(p rowPair) {
		far := impl.RowFar(p.steps, p.x, p.y)
		if (far == 0) != slices.Equal(p.x, p.y) || far < 0 {
			t.Errorf("RowFar(%d, %v, %v) is %d", p.steps, p.x, p.y, far)
		}
		if far == 0 {
			equal++
		} else {
			others++
		}
	})
	if equal < 100 || others < 100 {
		t.Errorf("%d rows are equal, and %d are not", equal, others)
	}
}

func TestP38OverTheLesserOnes(t *testing.T) {
	eachRowPair(func(p rowPair) {
		lesser := noughts(len(p.x))
		for place := range lesser {
			lesser[place] = impl.LesserOf(p.steps, p.x[place], p.y[place])
		}
		checkRowFar(t, p.steps, p.x, p.y, impl.RowFar(p.steps, p.x, lesser)+impl.RowFar(p.steps, lesser, p.y))
	})
}

// eachPlaceApart calls a function for pairs of rows of all lengths that differ at one place alone, and tells how far they are apart there.
func eachPlaceApart(check func(p rowPair, far int)) {
	for _, steps := range allChains {
		for length := 1; length <= 7; length++ {
			for place := range length {
				for a := 0; a <= steps; a++ {
					row := slices.Repeat([]int{a}, length)
					for b := 0; b <= steps; b++ {
						check(rowPair{steps, row, changedAt(row, place, b)}, apart(a, b))
					}
				}
			}
		}
	}
}

func TestP38ApartAtOnePlace(t *testing.T) {
	eachPlaceApart(func(p rowPair, far int) { checkRowFar(t, p.steps, p.x, p.y, far) })
}

func TestP38ApartAtEachPlace(t *testing.T) {
	for _, steps := range allChains {
		for length := 1; length <= 7; length++ {
			for a := 0; a <= steps; a++ {
				row := slices.Repeat([]int{a}, length)
				checkRowFar(t, steps, row, row, 0)
				checkRowFar(t, steps, noughts(length), row, length*a)
				checkRowFar(t, steps, slices.Repeat([]int{steps}, length), row, length*(steps-a))
			}
		}
	}
}

func TestP38OthersAreNotApart(t *testing.T) {
	eachNoRowPair(func(steps int, x, y []int) { checkRowFar(t, steps, x, y, -1) })
}

// P39: Rows are alike as their worst places.
func TestP39RowAlikeByHand(t *testing.T) {
	for _, p := range rowsByHand {
		checkRowAlike(t, p.steps, p.x, p.y, p.alike)
	}
}

func TestP39WorstPlace(t *testing.T) {
	eachRowPair(func(p rowPair) { checkRowAlike(t, p.steps, p.x, p.y, p.steps-farthestPlace(p.x, p.y)) })
}

func TestP39TrueExactlyForEqual(t *testing.T) {
	eachRowPair(func(p rowPair) {
		if alike := impl.RowAlike(p.steps, p.x, p.y); (alike == p.steps) != slices.Equal(p.x, p.y) || !impl.ValueOk(p.steps, alike) {
			t.Errorf("RowAlike(%d, %v, %v) is %d", p.steps, p.x, p.y, alike)
		}
	})
}

func TestP39AtNoPlaceLess(t *testing.T) {
	eachRowPair(func(p rowPair) {
		alike, reached := impl.RowAlike(p.steps, p.x, p.y), false
		for place := range p.x {
			here := impl.AlikeOf(p.steps, p.x[place], p.y[place])
			reached = reached || here == alike
			if here < alike {
				t.Errorf("RowAlike(%d, %v, %v) is %d, but at %d it is %d", p.steps, p.x, p.y, alike, place, here)
			}
		}
		if !reached {
			t.Errorf("RowAlike(%d, %v, %v) is %d, but at no place it is", p.steps, p.x, p.y, alike)
		}
	})
}

func TestP39LessIsAtMostHowFar(t *testing.T) {
	less := 0
	eachRowPair(func(p rowPair) {
		lacking, far := p.steps-impl.RowAlike(p.steps, p.x, p.y), impl.RowFar(p.steps, p.x, p.y)
		if lacking > far {
			t.Errorf("%v and %v of the chain of %d steps lack %d, but are %d apart", p.x, p.y, p.steps, lacking, far)
		}
		if lacking < far {
			less++
		}
	})
	if less == 0 {
		t.Error("no rows are farther apart than at one place")
	}
}

func TestP39ApartAtOnePlace(t *testing.T) {
	eachPlaceApart(func(p rowPair, far int) { checkRowAlike(t, p.steps, p.x, p.y, p.steps-far) })
}

func TestP39ApartAtEachPlace(t *testing.T) {
	for _, steps := range allChains {
		for length := 1; length <= 7; length++ {
			for a := 0; a <= steps; a++ {
				row := slices.Repeat([]int{a}, length)
				checkRowAlike(t, steps, row, row, steps)
				checkRowAlike(t, steps, noughts(length), row, steps-a)
				checkRowAlike(t, steps, slices.Repeat([]int{steps}, length), row, a)
			}
		}
	}
}

func TestP39OthersAreNotAlike(t *testing.T) {
	eachNoRowPair(func(steps int, x, y []int) { checkRowAlike(t, steps, x, y, -1) })
}

// withRoom returns a row with room behind its end, which no function may write to.
func withRoom(row []int) []int {
	whole := append(slices.Clone(row), -7, 7, 0, 1, 1, 1, 1, 1)
	return whole[:len(row):len(whole)]
}

func TestP39RowsStayAsTheyAre(t *testing.T) {
	for _, x := range [][]int{{}, {0}, {1}, {3, 0, 1}, {0, 1, 2, 3, 4, 5, 6}, {6, 5, 4, 3, 2, 1, 0}, {7}, {-1, 0}, {0, -1, 0, 7, 1, 9, 2}, noughts(8)} {
		for _, y := range [][]int{{2}, {1, 1}, {1, 1, 3}, {3, 3, 3, 3, 3, 3, 3}, noughts(8), slices.Clone(x)} {
			for _, steps := range []int{-1, 0, 1, 3, 6, 7} {
				first, second := withRoom(x), withRoom(y)
				impl.RowOk(steps, first)
				impl.RowFar(steps, first, second)
				impl.RowAlike(steps, first, second)
				impl.RowFar(steps, first, first)
				impl.RowAlike(steps, first, first)
				if !slices.Equal(first[:cap(first)], withRoom(x)[:cap(first)]) || !slices.Equal(second[:cap(second)], withRoom(y)[:cap(second)]) {
					t.Errorf("%v and %v have become %v and %v", x, y, first, second)
				}
			}
		}
	}
}

// P40: Formulas move at most as often as letters stand in them.
func TestP40MovesByHand(t *testing.T) {
	for s, row := range movesByHand {
		for i, want := range row {
			checkMoves(t, i+1, s, want)
		}
	}
}

func TestP40MovesOfBuilt(t *testing.T) {
	for _, x := range builtMany() {
		for _, steps := range allChains {
			checkMoves(t, steps, x.text, movesOfBuilt(steps, x))
		}
	}
}

// With many brackets formulas move as far as the chain goes.
func TestP40MovesOfDeep(t *testing.T) {
	for place := range signMarks {
		for times := 0; times <= 14; times++ {
			for _, atom := range builtAtoms {
				for _, ahead := range []bool{true, false} {
					x := builtNot(deepOf(place, times, ahead, atom))
					for _, steps := range allChains {
						checkMoves(t, steps, x.text, movesOfBuilt(steps, x))
					}
				}
			}
		}
	}
}

func TestP40AtMostLetters(t *testing.T) {
	just, fewer := 0, 0
	for _, x := range append(builtMany(), builtOfAllLengths(builtAtoms[:1], 3)...) {
		for _, steps := range allChains {
			moves := impl.MovesOf(steps, x.text)
			if moves < 0 || moves > impl.LettersIn(x.text) || moves > strings.Count(x.text, "a") || moves > steps {
				t.Errorf("MovesOf(%d, %q) is %d", steps, x.text, moves)
			}
			if moves == impl.LettersIn(x.text) {
				just++
			} else {
				fewer++
			}
		}
	}
	if just == 0 || fewer == 0 {
		t.Errorf("%d formulas move as often as letters stand in them, and %d not", just, fewer)
	}
}

func TestP40OfOneLetterAndOfTwo(t *testing.T) {
	for _, steps := range allChains {
		checkMoves(t, steps, "a", 1)
		checkMoves(t, steps, "(a+a)", min(2, steps))
	}
}

func TestP40WithoutTheLetterNothing(t *testing.T) {
	list := append(builtOfAllLengths(builtAtoms[1:], 3), builtAtoms[1:]...)
	for _, x := range append(list, builtLaws(builtAtoms[1], builtAtoms[2])...) {
		for _, steps := range allChains {
			checkMoves(t, steps, x.text, 0)
		}
	}
}

// The values of b and c stay where they are: moved along with a they would hide how far these move.
func TestP40OtherLettersStay(t *testing.T) {
	for _, steps := range allChains {
		for _, s := range []string{"(a>b)", "(b>a)", "(a>c)", "(c>a)", "((a>b)&(b>a))", "((a>c)*(c>a))", "(a+!b)", "(a*!c)"} {
			checkMoves(t, steps, s, 1)
		}
		for _, s := range []string{"(a+(b+c))", "(a&(b&c))", "(a*(b*c))", "(a|(b|c))"} {
			checkMoves(t, steps, s, 1)
		}
	}
}

func TestP40OfMaxFormulaBytes(t *testing.T) {
	for bytes := 55; bytes <= 66; bytes++ {
		for _, x := range []struct {
			s     string
			moves int
		}{
			{strings.Repeat("!", bytes-1) + "a", 1}, {strings.Repeat("!", bytes-1) + "b", 0}, {"(" + strings.Repeat("!", bytes-5) + "a+0)", 1}, {"(b&" + strings.Repeat("!", bytes-5) + "c)", 0},
		} {
			want := x.moves
			if bytes > 60 {
				want = -1
			}
			for _, steps := range allChains {
				checkMoves(t, steps, x.s, want)
			}
		}
	}
}

func TestP40OthersDoNotMove(t *testing.T) {
	eachBadChain(func(steps int, s string) { checkMoves(t, steps, s, -1) })
	for _, steps := range badSteps {
		for s := range movesByHand {
			checkMoves(t, steps, s, -1)
		}
	}
}

// P64: One value is a row.
func TestP64OneValueIsARow(t *testing.T) {
	eachValue(func(steps, v int) {
		checkRow(t, steps, []int{v}, true)
		checkRow(t, steps, withRoom([]int{v}), true)
	})
}

func TestP64NoughtsAreARow(t *testing.T) {
	for _, steps := range allChains {
		checkRow(t, steps, noughts(impl.MaxRow), true)
		for length := range 20 {
			checkRow(t, steps, noughts(length), 1 <= length && length <= 7)
			checkRow(t, steps, slices.Repeat([]int{steps}, length), 1 <= length && length <= 7)
		}
	}
}

func TestP64RowsOfValues(t *testing.T) {
	eachRowPair(func(p rowPair) {
		checkRow(t, p.steps, p.x, true)
		checkRow(t, p.steps, p.y, true)
	})
	checkRow(t, 6, []int{0, 1, 2, 3, 4, 5, 6}, true)
	checkRow(t, 5, []int{0, 1, 2, 3, 4, 5, 6}, false)
	checkRow(t, 5, []int{0, 1, 2, 3, 4, 5}, true)
	checkRow(t, 1, []int{0, 1, 1, 0, 1, 0, 1}, true)
}

func TestP64OthersAreNoRows(t *testing.T) {
	eachNoValue(func(steps, v int) { checkRow(t, steps, []int{v}, false) })
	eachNoRow(func(steps int, row []int) { checkRow(t, steps, row, false) })
}
