package tests

import (
	"math"
	"math/rand"
	"slices"
	"strings"
	"testing"

	"loop.example/manyvalues/impl"
)

// makesByHand has, for the chains from one step to six, the values that each value makes, from 0 on.
var makesByHand = [][][]int{
	{{0, 1}, {0, 1}},
	{{0, 2}, {0, 1, 2}, {0, 2}},
	{{0, 3}, {0, 1, 2, 3}, {0, 1, 2, 3}, {0, 3}},
	{{0, 4}, {0, 1, 2, 3, 4}, {0, 2, 4}, {0, 1, 2, 3, 4}, {0, 4}},
	{{0, 5}, {0, 1, 2, 3, 4, 5}, {0, 1, 2, 3, 4, 5}, {0, 1, 2, 3, 4, 5}, {0, 1, 2, 3, 4, 5}, {0, 5}},
	{{0, 6}, {0, 1, 2, 3, 4, 5, 6}, {0, 2, 4, 6}, {0, 3, 6}, {0, 2, 4, 6}, {0, 1, 2, 3, 4, 5, 6}, {0, 6}},
}

// countsByHand has, for the chains from one step to six, how many rows are sayable.
var countsByHand = []int{4, 12, 64, 300, 5184, 9408}

// saidByHand has, for formulas, the rows of the chains from one step to six.
var saidByHand = map[string][][]int{
	"a":          {{0, 1}, {0, 1, 2}, {0, 1, 2, 3}, {0, 1, 2, 3, 4}, {0, 1, 2, 3, 4, 5}, {0, 1, 2, 3, 4, 5, 6}},
	"b":          {{0, 1}, {0, 1, 2}, {0, 1, 2, 3}, {0, 1, 2, 3, 4}, {0, 1, 2, 3, 4, 5}, {0, 1, 2, 3, 4, 5, 6}},
	"c":          {{0, 1}, {0, 1, 2}, {0, 1, 2, 3}, {0, 1, 2, 3, 4}, {0, 1, 2, 3, 4, 5}, {0, 1, 2, 3, 4, 5, 6}},
	"0":          {{0, 0}, {0, 0, 0}, {0, 0, 0, 0}, {0, 0, 0, 0, 0}, {0, 0, 0, 0, 0, 0}, {0, 0, 0, 0, 0, 0, 0}},
	"1":          {{1, 1}, {2, 2, 2}, {3, 3, 3, 3}, {4, 4, 4, 4, 4}, {5, 5, 5, 5, 5, 5}, {6, 6, 6, 6, 6, 6, 6}},
	"!a":         {{1, 0}, {2, 1, 0}, {3, 2, 1, 0}, {4, 3, 2, 1, 0}, {5, 4, 3, 2, 1, 0}, {6, 5, 4, 3, 2, 1, 0}},
	"!b":         {{1, 0}, {2, 1, 0}, {3, 2, 1, 0}, {4, 3, 2, 1, 0}, {5, 4, 3, 2, 1, 0}, {6, 5, 4, 3, 2, 1, 0}},
	"(a>b)":      {{1, 1}, {2, 2, 2}, {3, 3, 3, 3}, {4, 4, 4, 4, 4}, {5, 5, 5, 5, 5, 5}, {6, 6, 6, 6, 6, 6, 6}},
	"(b*!c)":     {{0, 0}, {0, 0, 0}, {0, 0, 0, 0}, {0, 0, 0, 0, 0}, {0, 0, 0, 0, 0, 0}, {0, 0, 0, 0, 0, 0, 0}},
	"(b|c)":      {{0, 1}, {0, 1, 2}, {0, 1, 2, 3}, {0, 1, 2, 3, 4}, {0, 1, 2, 3, 4, 5}, {0, 1, 2, 3, 4, 5, 6}},
	"(c&!b)":     {{0, 0}, {0, 1, 0}, {0, 1, 1, 0}, {0, 1, 2, 1, 0}, {0, 1, 2, 2, 1, 0}, {0, 1, 2, 3, 2, 1, 0}},
	"(a|!a)":     {{1, 1}, {2, 1, 2}, {3, 2, 2, 3}, {4, 3, 2, 3, 4}, {5, 4, 3, 3, 4, 5}, {6, 5, 4, 3, 4, 5, 6}},
	"(a+a)":      {{0, 1}, {0, 2, 2}, {0, 2, 3, 3}, {0, 2, 4, 4, 4}, {0, 2, 4, 5, 5, 5}, {0, 2, 4, 6, 6, 6, 6}},
	"(b+c)":      {{0, 1}, {0, 2, 2}, {0, 2, 3, 3}, {0, 2, 4, 4, 4}, {0, 2, 4, 5, 5, 5}, {0, 2, 4, 6, 6, 6, 6}},
	"(a*a)":      {{0, 1}, {0, 0, 2}, {0, 0, 1, 3}, {0, 0, 0, 2, 4}, {0, 0, 0, 1, 3, 5}, {0, 0, 0, 0, 2, 4, 6}},
	"(a*(b*c))":  {{0, 1}, {0, 0, 2}, {0, 0, 0, 3}, {0, 0, 0, 1, 4}, {0, 0, 0, 0, 2, 5}, {0, 0, 0, 0, 0, 3, 6}},
	"(a>!a)":     {{1, 0}, {2, 2, 0}, {3, 3, 2, 0}, {4, 4, 4, 2, 0}, {5, 5, 5, 4, 2, 0}, {6, 6, 6, 6, 4, 2, 0}},
	"(a>(a*a))":  {{1, 1}, {2, 1, 2}, {3, 2, 2, 3}, {4, 3, 2, 3, 4}, {5, 4, 3, 3, 4, 5}, {6, 5, 4, 3, 4, 5, 6}},
	"((a>0)>!b)": {{1, 1}, {2, 2, 2}, {3, 3, 3, 3}, {4, 4, 4, 4, 4}, {5, 5, 5, 5, 5, 5}, {6, 6, 6, 6, 6, 6, 6}},
	"(!a>c)":     {{0, 1}, {0, 2, 2}, {0, 2, 3, 3}, {0, 2, 4, 4, 4}, {0, 2, 4, 5, 5, 5}, {0, 2, 4, 6, 6, 6, 6}},
}

// ascendingRow returns the row of all values of a chain in ascending order.
func ascendingRow(steps int) []int {
	row := noughts(steps + 1)
	for v := range row {
		row[v] = v
	}
	return row
}

// fullRow returns the row that is true for all values of a chain.
func fullRow(steps int) []int {
	return slices.Repeat([]int{steps}, steps+1)
}

// sayableByHand tells, from makesByHand, whether a row of as many values as the chain has is sayable.
func sayableByHand(steps int, row []int) bool {
	for v, said := range row {
		if !slices.Contains(makesByHand[steps-1][v], said) {
			return false
		}
	}
	return true
}

// sayableRows returns, from makesByHand, all sayable rows of a chain, in the order of rows of numbers.
func sayableRows(steps int) [][]int {
	rows := [][]int{nil}
	for _, values := range makesByHand[steps-1] {
		var longer [][]int
		for _, row := range rows {
			for _, v := range values {
				longer = append(longer, append(slices.Clone(row), v))
			}
		}
		rows = longer
	}
	return rows
}

// manyRows returns rows of as many values as a chain has: all of them for short chains, and else all that are sayable, and some others.
func manyRows(steps int) [][]int {
	if steps < impl.MaxSteps {
		return allRows(steps, steps+1)
	}
	source := rand.New(rand.NewSource(9))
	rows := sayableRows(steps)
	for i := range rows {
		if i%8 == 0 {
			rows = append(rows, changedAt(rows[i], source.Intn(steps+1), source.Intn(steps+1)))
		}
	}
	for range 4000 {
		rows = append(rows, someRow(source, steps, steps+1))
	}
	return rows
}

// eachSayableRow calls a function for sayable rows of each chain: for all of them, and for each tenth of the longest two chains.
func eachSayableRow(check func(steps int, row []int)) {
	for _, steps := range allChains {
		for i, row := range sayableRows(steps) {
			if steps <= 4 || i%10 == 0 {
				check(steps, row)
			}
		}
	}
}

// noPlaces returns numbers that are no values of a chain: those of badValues, and some that a shift or a cut would take for values.
func noPlaces(steps int) []int {
	list := []int{-64, -63, -2, 31, 32, 33, 62, 63, 64, 65, 128, 256, 257, 1<<32 + 1, 1<<32 + steps, 1 << 62, math.MaxInt32, math.MaxInt - 1, math.MinInt + steps}
	return append(list, badValues(steps)...)
}

// eachNoPlaces calls a function for rows that have not just one value of the chain for each value, and for rows where there is no chain.
func eachNoPlaces(check func(steps int, row []int)) {
	eachNoRow(check)
	for _, steps := range allChains {
		for length := range 9 {
			if length != steps+1 {
				check(steps, noughts(length))
				check(steps, slices.Repeat([]int{steps}, length))
				check(steps, slices.Repeat([]int{0, steps}, 5)[:length])
			}
		}
		for _, row := range [][]int{ascendingRow(steps), noughts(steps + 1), fullRow(steps)} {
			check(steps, row[:steps])
			check(steps, row[1:])
			check(steps, append(slices.Clone(row), 0))
			check(steps, append(slices.Clone(row), steps))
			check(steps, append(slices.Clone(row), steps+1))
			for place := range row {
				for _, v := range noPlaces(steps) {
					check(steps, changedAt(row, place, v))
				}
			}
		}
		check(steps, slices.Repeat([]int{math.MinInt}, steps+1))
		check(steps, slices.Repeat([]int{math.MaxInt}, steps+1))
	}
	for _, steps := range badSteps {
		for _, other := range allChains {
			check(steps, ascendingRow(other))
			check(steps, noughts(other+1))
			check(steps, fullRow(other))
		}
	}
}

// saidOfBuilt returns the row of a built formula, by its values alone.
func saidOfBuilt(steps int, x built) []int {
	row := noughts(steps + 1)
	for v := range row {
		row[v] = x.value(steps, v, v, v)
	}
	return row
}

// keyOf returns a text by which a row of values may be told from others.
func keyOf(row []int) string {
	var key strings.Builder
	for _, v := range row {
		key.WriteByte(byte('0' + v))
	}
	return key.String()
}

// followingRow returns the row that tells at each place how true it is that the value of y follows of that of x.
func followingRow(steps int, x, y []int) []int {
	row := noughts(len(x))
	for place := range row {
		row[place] = impl.FollowsOf(steps, x[place], y[place])
	}
	return row
}

// checkSaid checks RowSaid.
func checkSaid(t *testing.T, steps int, s string, want []int) {
	t.Helper()
	if got := impl.RowSaid(steps, s); !slices.Equal(got, want) {
		t.Errorf("RowSaid(%d, %q) is %v, not %v", steps, shown(s), got, want)
	}
}

// checkSayable checks SayableOk.
func checkSayable(t *testing.T, steps int, row []int, want bool) {
	t.Helper()
	if got := impl.SayableOk(steps, row); got != want {
		t.Errorf("SayableOk(%d, %v) (%d values) is %v", steps, shownRow(row), len(row), got)
	}
}

// checkCount checks CountSayable.
func checkCount(t *testing.T, steps, want int) {
	t.Helper()
	if got := impl.CountSayable(steps); got != want {
		t.Errorf("CountSayable(%d) is %d, not %d", steps, got, want)
	}
}

// checkRowsMade checks RowsMade.
func checkRowsMade(t *testing.T, steps int, want [][]int) {
	t.Helper()
	if got := impl.RowsMade(steps); !slices.EqualFunc(got, want, slices.Equal) {
		t.Errorf("RowsMade(%d) is %v, not %v", steps, got, want)
	}
}

func TestMaxSaid(t *testing.T) {
	if impl.MaxSaid != 4 {
		t.Errorf("MaxSaid is %d", impl.MaxSaid)
	}
}

// P41: What is said is sayable.
func TestP41SaidByHand(t *testing.T) {
	for s, rows := range saidByHand {
		for i, want := range rows {
			checkSaid(t, i+1, s, want)
		}
	}
}

func TestP41SaidOfBuilt(t *testing.T) {
	for _, x := range builtMany() {
		for _, steps := range allChains {
			checkSaid(t, steps, x.text, saidOfBuilt(steps, x))
		}
	}
}

func TestP41SaidByValues(t *testing.T) {
	for _, s := range append(formulasByHand, textsOf(builtMany())...) {
		for _, steps := range allChains {
			want := noughts(steps + 1)
			for v := range want {
				want[v] = impl.ValueAt(steps, s, v, v, v)
			}
			checkSaid(t, steps, s, want)
		}
	}
}

func TestP41SaidIsSayable(t *testing.T) {
	for _, x := range append(builtMany(), builtOfAllLengths(builtAtoms, 5)...) {
		for _, steps := range allChains {
			row := impl.RowSaid(steps, x.text)
			checkSayable(t, steps, row, true)
			if !slices.Contains([]int{0, steps}, row[0]) || !slices.Contains([]int{0, steps}, row[steps]) {
				t.Errorf("RowSaid(%d, %q) is %v, but false and true are neither false nor true", steps, x.text, row)
			}
		}
	}
}

func TestP41LettersAlone(t *testing.T) {
	for _, steps := range allChains {
		for _, s := range []string{"a", "b", "c"} {
			checkSaid(t, steps, s, ascendingRow(steps))
			checkSaid(t, steps, "!!"+s, ascendingRow(steps))
		}
		checkSaid(t, steps, "0", noughts(steps+1))
		checkSaid(t, steps, "1", fullRow(steps))
	}
}

// All letters have the same value: whichever of them stands in a formula, the row is the same.
func TestP41OtherLettersAreTheSame(t *testing.T) {
	list := append(builtOfAllLengths(builtAtoms[1:3], 3), builtOfAllLengths(builtAtoms, 3)...)
	for _, x := range list {
		for _, letter := range []string{"a", "b", "c"} {
			renamed := strings.NewReplacer("a", letter, "b", letter, "c", letter).Replace(x.text)
			for _, steps := range allChains {
				checkSaid(t, steps, renamed, saidOfBuilt(steps, x))
			}
		}
	}
}

func TestP41OneStepIsFalseAndTrue(t *testing.T) {
	for _, x := range builtMany() {
		want := noughts(2)
		for v := range want {
			if x.truth(v == 1, v == 1, v == 1) {
				want[v] = 1
			}
		}
		checkSaid(t, 1, x.text, want)
	}
}

func TestP41LongerChainsSayTheSame(t *testing.T) {
	for _, x := range builtMany() {
		for _, steps := range []int{1, 2, 3} {
			short, long := impl.RowSaid(steps, x.text), impl.RowSaid(2*steps, x.text)
			for v := range short {
				equals(t, "row of "+x.text, 2*steps, v, 2*v, long[2*v], 2*short[v])
			}
		}
	}
}

func TestP41OfMaxFormulaBytes(t *testing.T) {
	for _, steps := range allChains {
		descending := ascendingRow(steps)
		slices.Reverse(descending)
		for bytes := 55; bytes <= 66; bytes++ {
			row := ascendingRow(steps)
			if bytes%2 == 0 {
				row = descending
			}
			if bytes > 60 {
				row = nil
			}
			for _, letter := range []string{"a", "b", "c"} {
				checkSaid(t, steps, strings.Repeat("!", bytes-1)+letter, row)
				checkSaid(t, steps, "("+strings.Repeat("!", bytes-5)+letter+"+0)", row)
			}
		}
	}
}

func TestP41NewMemory(t *testing.T) {
	for s, rows := range saidByHand {
		for i, want := range rows {
			first, second := impl.RowSaid(i+1, s), impl.RowSaid(i+1, s)
			spare := first[:cap(first)]
			for place := range spare {
				spare[place] = -7
			}
			if !slices.Equal(second, want) {
				t.Errorf("RowSaid(%d, %q): writing to one result changes another one: %v", i+1, s, second)
			}
			checkSaid(t, i+1, s, want)
		}
	}
}

func TestP41OthersSayNothing(t *testing.T) {
	eachBadChain(func(steps int, s string) { checkSaid(t, steps, s, nil) })
	for _, steps := range badSteps {
		for s := range saidByHand {
			// A chain that is too long would have more values than can be told: the first one ends the test.
			if got := impl.RowSaid(steps, s); len(got) != 0 {
				t.Fatalf("RowSaid(%d, %q) is %v", steps, s, got)
			}
		}
	}
	for _, steps := range allChains {
		checkSaid(t, steps, "", nil)
		for _, s := range noFormulas {
			checkSaid(t, steps, s, nil)
		}
	}
}

// P42: Sayable rows are closed.
func TestP42SayableByHand(t *testing.T) {
	for _, x := range []struct {
		steps int
		row   []int
		want  bool
	}{
		{1, []int{0, 0}, true}, {1, []int{0, 1}, true}, {1, []int{1, 0}, true}, {1, []int{1, 1}, true}, {1, []int{0, 2}, false}, {1, []int{2, 0}, false}, {1, []int{0, -1}, false},
		{2, []int{0, 1, 2}, true}, {2, []int{2, 1, 0}, true}, {2, []int{0, 0, 2}, true}, {2, []int{1, 1, 2}, false}, {2, []int{0, 1, 1}, false}, {2, []int{1, 0, 0}, false},
		{3, []int{0, 2, 1, 3}, true}, {3, []int{3, 1, 1, 0}, true}, {3, []int{1, 1, 1, 0}, false}, {3, []int{3, 1, 1, 2}, false}, {3, []int{0, 3, 0, 3}, true},
		{4, []int{4, 3, 2, 1, 0}, true}, {4, []int{0, 0, 1, 0, 0}, false}, {4, []int{0, 0, 3, 0, 0}, false}, {4, []int{0, 1, 0, 3, 0}, true}, {4, []int{2, 0, 0, 0, 0}, false}, {4, []int{0, 3, 4, 1, 4}, true}, {4, []int{0, 0}, false},
		{5, []int{5, 1, 4, 2, 3, 0}, true}, {5, []int{5, 1, 4, 2, 3, 1}, false}, {5, []int{4, 1, 4, 2, 3, 5}, false},
		{6, []int{0, 1, 2, 3, 4, 5, 6}, true}, {6, []int{0, 5, 4, 3, 2, 1, 0}, true}, {6, []int{0, 5, 3, 3, 2, 1, 0}, false}, {6, []int{0, 5, 4, 2, 2, 1, 0}, false}, {6, []int{0, 5, 4, 3, 1, 1, 0}, false}, {6, []int{3, 5, 4, 3, 2, 1, 0}, false},
		{6, []int{6, 1, 6, 0, 0, 3, 6}, true}, {6, []int{0, 0, 0, 4, 0, 0, 0}, false}, {6, []int{0, 0, 0, 0, 0, 0, 3}, false},
	} {
		checkSayable(t, x.steps, x.row, x.want)
	}
}

func TestP42SayableOfManyRows(t *testing.T) {
	for _, steps := range allChains {
		for _, row := range manyRows(steps) {
			checkSayable(t, steps, row, sayableByHand(steps, row))
		}
	}
}

func TestP42OnePlace(t *testing.T) {
	for _, steps := range allChains {
		for _, row := range [][]int{ascendingRow(steps), noughts(steps + 1), fullRow(steps)} {
			checkSayable(t, steps, row, true)
			for place := range row {
				for v := 0; v <= steps; v++ {
					checkSayable(t, steps, changedAt(row, place, v), slices.Contains(makesByHand[steps-1][place], v))
				}
			}
		}
	}
}

// With places exchanged a value would be asked of what another value makes.
func TestP42PlacesAreOfTheirValues(t *testing.T) {
	checkSayable(t, 6, []int{0, 0, 2, 3, 0, 0, 0}, true)
	checkSayable(t, 6, []int{0, 0, 3, 2, 0, 0, 0}, false)
	checkSayable(t, 6, []int{0, 1, 0, 0, 0, 0, 0}, true)
	checkSayable(t, 6, []int{1, 0, 0, 0, 0, 0, 0}, false)
	checkSayable(t, 4, []int{0, 1, 2, 0, 0}, true)
	checkSayable(t, 4, []int{0, 2, 1, 0, 0}, false)
}

func TestP42ClosedByOpposites(t *testing.T) {
	eachSayableRow(func(steps int, row []int) {
		opposites, following := noughts(len(row)), noughts(len(row))
		for v, said := range row {
			opposites[v] = impl.NotOf(steps, said)
			following[v] = impl.FollowsOf(steps, said, v)
		}
		checkSayable(t, steps, row, true)
		checkSayable(t, steps, opposites, true)
		checkSayable(t, steps, following, true)
	})
}

func TestP42OppositesExactlyOfSayable(t *testing.T) {
	others := 0
	for _, steps := range []int{1, 2, 3, 4} {
		for _, row := range allRows(steps, steps+1) {
			opposites := noughts(len(row))
			for v, said := range row {
				opposites[v] = impl.NotOf(steps, said)
			}
			sayable := impl.SayableOk(steps, row)
			checkSayable(t, steps, opposites, sayable)
			if !sayable {
				others++
			}
		}
	}
	if others == 0 {
		t.Error("all rows are sayable")
	}
}

func TestP42AmongWhatThePlacesMake(t *testing.T) {
	for _, steps := range []int{1, 2, 3, 4, 6} {
		for i, row := range manyRows(steps) {
			if steps == impl.MaxSteps && i%10 != 0 {
				continue
			}
			among := true
			for v, said := range row {
				among = among && hasAll(impl.MadeBy(steps, setOfValues(v)), setOfValues(said))
			}
			checkSayable(t, steps, row, among)
		}
	}
}

func TestP42RowsStayAsTheyAre(t *testing.T) {
	for _, row := range [][]int{{}, {0}, {0, 1}, {1, 1}, {0, 1, 2}, {1, 0, 0}, {0, 0, 1, 0, 0}, {0, 1, 2, 3, 4, 5, 6}, {6, 5, 4, 3, 2, 1, 0}, {3, 3, 3, 3, 3, 3, 3}, {math.MinInt, math.MaxInt}, {0, 7, -1, 9}, noughts(8)} {
		for _, steps := range []int{math.MinInt, -1, 0, 1, 2, 3, 4, 5, 6, 7, math.MaxInt} {
			handed := withRoom(row)
			impl.SayableOk(steps, handed)
			if want := withRoom(row); !slices.Equal(handed[:cap(handed)], want[:cap(handed)]) {
				t.Errorf("%v has become %v", want[:cap(handed)], handed[:cap(handed)])
			}
		}
	}
}

func TestP42OthersAreNotSayable(t *testing.T) {
	checkSayable(t, 1, nil, false)
	checkSayable(t, 0, []int{0}, false)
	eachNoPlaces(func(steps int, row []int) { checkSayable(t, steps, row, false) })
}

// P43: Prime chains may say nearly all.
func TestP43CountsByHand(t *testing.T) {
	for i, want := range countsByHand {
		checkCount(t, i+1, want)
	}
}

func TestP43AsManyAsEachValueMakes(t *testing.T) {
	for i, makes := range makesByHand {
		want := 1
		for _, values := range makes {
			want *= len(values)
		}
		checkCount(t, i+1, want)
	}
}

func TestP43PrimeChains(t *testing.T) {
	for _, steps := range []int{2, 3, 5} {
		want := 4
		for range steps - 1 {
			want *= steps + 1
		}
		checkCount(t, steps, want)
	}
}

func TestP43CountsAllThatAreSayable(t *testing.T) {
	for steps := 1; steps <= 5; steps++ {
		count := 0
		for _, row := range allRows(steps, steps+1) {
			if impl.SayableOk(steps, row) {
				count++
			}
		}
		checkCount(t, steps, count)
	}
	checkCount(t, 6, len(sayableRows(6)))
}

func TestP43OthersHaveNoRows(t *testing.T) {
	for _, steps := range badSteps {
		checkCount(t, steps, -1)
	}
	for steps := -70; steps <= 70; steps++ {
		if steps < 1 || steps > 6 {
			checkCount(t, steps, -1)
		}
	}
}

// P44: All that is sayable is said.
func TestP44MadeByHand(t *testing.T) {
	checkRowsMade(t, 1, [][]int{{0, 0}, {0, 1}, {1, 0}, {1, 1}})
	checkRowsMade(t, 2, [][]int{{0, 0, 0}, {0, 0, 2}, {0, 1, 0}, {0, 1, 2}, {0, 2, 0}, {0, 2, 2}, {2, 0, 0}, {2, 0, 2}, {2, 1, 0}, {2, 1, 2}, {2, 2, 0}, {2, 2, 2}})
}

func TestP44AllSayableAreMade(t *testing.T) {
	for steps := 1; steps <= 4; steps++ {
		checkRowsMade(t, steps, sayableRows(steps))
		checkRowsMade(t, steps, slices.DeleteFunc(allRows(steps, steps+1), func(row []int) bool { return !sayableByHand(steps, row) }))
	}
}

func TestP44EachIsSayable(t *testing.T) {
	for steps := 1; steps <= 4; steps++ {
		rows := impl.RowsMade(steps)
		for _, row := range rows {
			checkSayable(t, steps, row, true)
		}
		checkCount(t, steps, len(rows))
		if len(rows) != countsByHand[steps-1] {
			t.Errorf("RowsMade(%d) has %d rows", steps, len(rows))
		}
	}
}

func TestP44InOrder(t *testing.T) {
	for steps := 1; steps <= 4; steps++ {
		rows := impl.RowsMade(steps)
		for i, row := range rows {
			if i > 0 && slices.Compare(rows[i-1], row) >= 0 {
				t.Errorf("RowsMade(%d) has %v ahead of %v", steps, rows[i-1], row)
			}
		}
		if first, last := rows[0], rows[len(rows)-1]; !slices.Equal(first, noughts(steps+1)) || !slices.Equal(last, fullRow(steps)) {
			t.Errorf("RowsMade(%d) goes from %v to %v", steps, first, last)
		}
	}
}

// madeInWords puts to the first two rows all that follow, until there are no more, and returns them by keyOf.
func madeInWords(steps int) map[string]bool {
	rows := [][]int{ascendingRow(steps), noughts(steps + 1)}
	made := map[string]bool{keyOf(rows[0]): true, keyOf(rows[1]): true}
	for i := 0; i < len(rows); i++ {
		for j := 0; j <= i; j++ {
			for _, row := range [][]int{followingRow(steps, rows[i], rows[j]), followingRow(steps, rows[j], rows[i])} {
				if !made[keyOf(row)] {
					made[keyOf(row)] = true
					rows = append(rows, row)
				}
			}
		}
	}
	return made
}

func TestP44MadeInWords(t *testing.T) {
	for steps := 1; steps <= 4; steps++ {
		made, rows := madeInWords(steps), impl.RowsMade(steps)
		for _, row := range rows {
			if len(row) != steps+1 || !made[keyOf(row)] {
				t.Errorf("RowsMade(%d) has %v", steps, row)
			}
		}
		if len(rows) != len(made) {
			t.Errorf("RowsMade(%d) has %d rows, not %d", steps, len(rows), len(made))
		}
	}
}

func TestP44SaidIsMade(t *testing.T) {
	for steps := 1; steps <= 4; steps++ {
		made := map[string]bool{}
		for _, row := range impl.RowsMade(steps) {
			made[keyOf(row)] = true
		}
		for _, x := range builtMany() {
			if row := impl.RowSaid(steps, x.text); !made[keyOf(row)] {
				t.Errorf("RowsMade(%d) lacks %v, the row of %q", steps, row, x.text)
			}
		}
	}
}

// shortestFor returns, for the rows of a chain, by keyOf, a shortest formula that tells it, as far as a formula may be so long.
func shortestFor(steps int) map[string]string {
	found := map[string]string{}
	byLength := make([][]built, impl.MaxFormula+1)
	put := func(x built) {
		row := saidOfBuilt(steps, x)
		if _, ok := found[keyOf(row)]; ok {
			return
		}
		found[keyOf(row)] = x.text
		// The values are kept, so that they need not be told of all parts again.
		x.value = func(_, a, _, _ int) int { return row[a] }
		byLength[len(x.text)] = append(byLength[len(x.text)], x)
	}
	for _, x := range builtAtoms {
		put(x)
	}
	for length := 2; length <= impl.MaxFormula; length++ {
		for _, x := range byLength[length-1] {
			put(builtNot(x))
		}
		for ahead := 1; ahead <= length-4; ahead++ {
			for _, x := range byLength[ahead] {
				for _, y := range byLength[length-3-ahead] {
					for place := range signMarks {
						put(builtPair(place, x, y))
					}
				}
			}
		}
	}
	return found
}

// Of the chain of four steps two rows are told by longer formulas alone, of 61 and of 62 bytes: they are made, but no formula says them.
func TestP44EachIsSaid(t *testing.T) {
	for steps := 1; steps <= 4; steps++ {
		said := shortestFor(steps)
		var unsaid [][]int
		for _, row := range impl.RowsMade(steps) {
			if s, ok := said[keyOf(row)]; ok {
				checkSaid(t, steps, s, row)
			} else {
				unsaid = append(unsaid, row)
			}
		}
		var want [][]int
		if steps == 4 {
			want = [][]int{{0, 4, 0, 4, 0}, {4, 0, 4, 0, 4}}
		}
		if !slices.EqualFunc(unsaid, want, slices.Equal) {
			t.Errorf("RowsMade(%d) has %v, which no formula tells", steps, unsaid)
		}
		checkCount(t, steps, len(said)+len(want))
	}
}

func TestP44NewMemory(t *testing.T) {
	for steps := 1; steps <= 4; steps++ {
		first, second := impl.RowsMade(steps), impl.RowsMade(steps)
		want := sayableRows(steps)
		for i := range first {
			row := first[i]
			spare := row[:cap(row)]
			for place := range spare {
				spare[place] = -7
			}
			if i+1 < len(first) && !slices.EqualFunc(first[i+1:], want[i+1:], slices.Equal) {
				t.Errorf("RowsMade(%d): writing to row %d changes another one", steps, i)
			}
		}
		outer := first[:cap(first)]
		clear(outer)
		if !slices.EqualFunc(second, want, slices.Equal) {
			t.Errorf("RowsMade(%d): writing to one result changes another one", steps)
		}
		checkRowsMade(t, steps, want)
	}
}

func TestP44OthersMakeNoRows(t *testing.T) {
	for steps := -70; steps <= 70; steps++ {
		if steps < 1 || steps > 4 {
			if got := impl.RowsMade(steps); len(got) != 0 {
				t.Fatalf("RowsMade(%d) has %d rows", steps, len(got))
			}
		}
	}
	for _, steps := range badSteps {
		if got := impl.RowsMade(steps); len(got) != 0 {
			t.Fatalf("RowsMade(%d) has %d rows", steps, len(got))
		}
	}
}
