package tests

import (
	"fmt"
	"math"
	"math/rand"
	"slices"
	"strings"
	"testing"

	"loop.example/manyvalues/impl"
)

// Tables are written as texts of nine digits, for 0 and 0, for 0 and 1, and so on.
const (
	alwaysFalse   = "000000000"
	alwaysUnknown = "111111111"
	alwaysTrue    = "222222222"
	firstOfBoth   = "000111222"
	secondOfBoth  = "012012012"
	lesserOfBoth  = "000011012"
	greaterOfBoth = "012112222"
)

// namedByHand has the tables with names, in the order of their numbers.
var namedByHand = []string{"000011012", "012112222", "222112012", "222122012", "222022012", "010111012"}

// namedRegular tells of the tables with names whether they are regular.
var namedRegular = []bool{true, true, true, false, false, true}

// strongByHand has the strong tables, in the order of their numbers.
var strongByHand = []string{
	"000000000", "210110000", "012011000", "222111000", "000110210", "210210210", "012111210", "222211210",
	"000011012", "210111012", "012012012", "222112012", "000111222", "210211222", "012112222", "222222222",
}

// regularByHand has tables, and whether they are regular.
var regularByHand = []struct {
	text string
	want bool
}{
	{alwaysFalse, true}, {alwaysUnknown, true}, {alwaysTrue, true}, {firstOfBoth, true}, {secondOfBoth, true}, {"222111000", true}, {"210210210", true},
	// Unknown at one place alone, or known at one place alone.
	{"000010000", true}, {"222212222", true}, {"100000000", false}, {"000000001", false}, {"010000000", false}, {"000100000", false}, {"000000010", false}, {"000001000", false},
	{"011111111", true}, {"101111111", false}, {"110111111", true}, {"111011111", false}, {"111101111", false}, {"111110111", false}, {"111111011", true}, {"111111101", false}, {"111111112", true},
	// One place apart from regular tables.
	{"200000000", false}, {"000020000", false}, {"222202222", false}, {"222222220", false}, {"000211222", false}, {"000112222", false}, {"000101222", false}, {"000121222", false}, {"002012012", false}, {"010012012", false}, {"012010012", false}, {"012012010", false},
	{"000111220", false}, {"000111212", true}, {"010111222", true}, {"110111222", true}, {"001111222", false},
	// What is told for one unknown value is told for it made known, and for both values as they are.
	{"000111111", true}, {"111111222", true}, {"000111000", true}, {"222111222", true}, {"010010010", true}, {"212212212", true}, {"011011011", true}, {"110110110", true}, {"002111222", false}, {"200111222", false},
	{"010111111", true}, {"012111210", true}, {"210111012", true}, {"110110000", true}, {"110110110", true}, {"000010012", false}, {"000011002", false},
}

// badTables are texts of tables that have a digit too few or too many, or one above 2.
var badTables = []string{"", "0", "1", "2", "012", "00001101", "0000110120", "000011013", "300011012", "000031012", "333333333", "000011012000011012", "0000110129"}

// noTableNumbers are numbers that no table has.
var noTableNumbers = []int{math.MinInt, math.MinInt + 1, math.MinInt32, -256, -64, -63, -17, -16, -15, -6, -2, -1, 16, 17, 18, 31, 32, 63, 64, 255, 256, 257, 1 << 32, 1<<32 + 1, 1<<32 + 5, 1 << 62, math.MaxInt32, math.MaxInt - 1, math.MaxInt}

// noTruths are numbers that are neither false nor unknown nor true, among them some that a cut, a shift or a remainder would take for these.
var noTruths = []int{math.MinInt, math.MinInt + 1, math.MinInt + 2, math.MinInt32, -256, -255, -9, -8, -4, -3, -2, -1, 3, 4, 5, 6, 7, 8, 9, 10, 256, 257, 258, 1 << 32, 1<<32 + 1, 1<<32 + 2, 1 << 62, math.MaxInt32, math.MaxInt - 2, math.MaxInt - 1, math.MaxInt}

// tableOf returns the table of a text.
func tableOf(text string) impl.Table {
	at := noughts(len(text))
	for place := range at {
		at[place] = int(text[place] - '0')
	}
	return impl.Table{At: at}
}

// textOfTable returns the text of a table whose values are digits; others are told by their numbers.
func textOfTable(x impl.Table) string {
	if slices.ContainsFunc(x.At, func(v int) bool { return v < 0 || v > 9 }) {
		return fmt.Sprint(shownRow(x.At))
	}
	return keyOf(x.At)
}

// allTables returns the texts of all tables.
func allTables() []string {
	var list []string
	for _, row := range allRows(2, 9) {
		list = append(list, keyOf(row))
	}
	return list
}

// told returns what the table of a text tells for two values.
func told(text string, a, b int) int {
	return int(text[3*a+b] - '0')
}

// textBy returns the text of the table that tells for two values what a function does.
func textBy(tells func(a, b int) int) string {
	var text strings.Builder
	for a := range 3 {
		for b := range 3 {
			text.WriteByte(byte('0' + tells(a, b)))
		}
	}
	return text.String()
}

// regularInWords tells whether a table is regular, as the document says it.
func regularInWords(text string) bool {
	for a := range 3 {
		for b := range 3 {
			for x := range 3 {
				for y := range 3 {
					as := (a == 1 || x == a) && (b == 1 || y == b)
					if as && told(text, a, b) != 1 && told(text, x, y) != told(text, a, b) {
						return false
					}
				}
			}
		}
	}
	return true
}

// regularTables returns the texts of all regular tables.
func regularTables() []string {
	return slices.DeleteFunc(allTables(), func(text string) bool { return !regularInWords(text) })
}

// someTable returns the text of a table, by a source of numbers.
func someTable(source *rand.Rand) string {
	return keyOf(someRow(source, 2, 9))
}

// knownTables are the tables of which the tests know by hand what they are.
func knownTables() []string {
	list := append([]string{alwaysFalse, alwaysUnknown, alwaysTrue, firstOfBoth, secondOfBoth}, namedByHand...)
	return append(list, strongByHand...)
}

// eachNoTable calls a function for what is no table: too few or too many values, or one that is none.
func eachNoTable(check func(x impl.Table)) {
	check(impl.Table{})
	check(impl.Table{At: []int{}})
	check(impl.Table{At: noughts(9)[:0]})
	for _, text := range badTables {
		check(tableOf(text))
	}
	for _, length := range []int{1, 2, 3, 4, 5, 6, 7, 8, 10, 11, 12, 16, 18, 27, 64, 81, 256 + 9, 65536 + 9} {
		for v := range 3 {
			check(impl.Table{At: slices.Repeat([]int{v}, length)})
		}
	}
	for _, text := range []string{alwaysFalse, alwaysUnknown, alwaysTrue, lesserOfBoth} {
		row := tableOf(text).At
		for place := range row {
			for _, v := range noTruths {
				check(impl.Table{At: changedAt(row, place, v)})
			}
		}
		check(impl.Table{At: row[:8]})
		check(impl.Table{At: row[1:]})
		check(impl.Table{At: append(row, 1)})
	}
	for _, v := range noTruths {
		check(impl.Table{At: slices.Repeat([]int{v}, 9)})
	}
}

// checkTable checks TableOk.
func checkTable(t *testing.T, x impl.Table, want bool) {
	t.Helper()
	if got := impl.TableOk(x); got != want {
		t.Errorf("TableOk(%s) (%d values) is %v", textOfTable(x), len(x.At), got)
	}
}

// checkAt checks TableAt.
func checkAt(t *testing.T, x impl.Table, a, b, want int) {
	t.Helper()
	if got := impl.TableAt(x, a, b); got != want {
		t.Errorf("TableAt(%s, %d, %d) is %d, not %d", textOfTable(x), a, b, got, want)
	}
}

// checkRegular checks RegularOk.
func checkRegular(t *testing.T, x impl.Table, want bool) {
	t.Helper()
	if got := impl.RegularOk(x); got != want {
		t.Errorf("RegularOk(%s) (%d values) is %v", textOfTable(x), len(x.At), got)
	}
}

// checkTold checks that a result is the table of a text, and none for the empty text.
func checkTold(t *testing.T, what string, got impl.Table, want string) {
	t.Helper()
	if textOfTable(got) != want {
		t.Errorf("%s is %s, not %s", what, textOfTable(got), want)
	}
}

// checkNamed checks NamedTable, and that there is none for the empty text.
func checkNamed(t *testing.T, number int, want string) {
	t.Helper()
	got, ok := impl.NamedTable(number)
	if ok != (want != "") {
		t.Errorf("NamedTable(%d) tells %v", number, ok)
	}
	checkTold(t, fmt.Sprintf("NamedTable(%d)", number), got, want)
}

// checkPut checks PutInto for the tables of texts.
func checkPut(t *testing.T, x, y, z, want string) {
	t.Helper()
	checkTold(t, fmt.Sprintf("PutInto(%s, %s, %s)", x, y, z), impl.PutInto(tableOf(x), tableOf(y), tableOf(z)), want)
}

// checkStrong checks StrongOf.
func checkStrong(t *testing.T, number int, want string) {
	t.Helper()
	checkTold(t, fmt.Sprintf("StrongOf(%d)", number), impl.StrongOf(number), want)
}

// named returns a table with a name.
func named(t *testing.T, number int) impl.Table {
	t.Helper()
	x, ok := impl.NamedTable(number)
	if !ok {
		t.Fatalf("NamedTable(%d) tells false", number)
	}
	return x
}

// spoil writes to all values of a table, and to the memory behind them.
func spoil(x impl.Table) {
	whole := x.At[:cap(x.At)]
	for place := range whole {
		whole[place] = -7
	}
}

// withTablesBehind returns values in new memory, with room behind them for more than one table.
func withTablesBehind(row []int) []int {
	whole := append(slices.Clone(row), slices.Repeat([]int{-7, 1, 2}, 7)...)
	return whole[:len(row):len(whole)]
}

// eachHanded calls a function for tables, and for what is none, with room behind their values, and checks that nothing there is written to.
func eachHanded(t *testing.T, use func(x impl.Table)) {
	t.Helper()
	rows := [][]int{nil, {0}, noughts(8), noughts(10), slices.Repeat([]int{2}, 18), {0, 1, 2, 0, 1, 2, 0, 1, 3}, {-1, 1, 2, 0, 1, 2, 0, 1, 2}, {0, 0, 0, 0, math.MaxInt, 0, 0, 0, 0}}
	for _, text := range append(knownTables(), "222122012", "010111012", "201120210") {
		rows = append(rows, tableOf(text).At)
	}
	for _, row := range rows {
		handed := withTablesBehind(row)
		use(impl.Table{At: handed})
		if want := withTablesBehind(row); len(handed) != len(row) || !slices.Equal(handed[:cap(handed)], want[:cap(handed)]) {
			t.Errorf("%v has become %v", want[:cap(handed)], handed[:cap(handed)])
		}
	}
}

func TestTables(t *testing.T) {
	if impl.Tables != 6 {
		t.Errorf("Tables is %d", impl.Tables)
	}
}

// P45: What is always unknown is a table.
func TestP45AlwaysTheSame(t *testing.T) {
	for v := range 3 {
		checkTable(t, impl.Table{At: slices.Repeat([]int{v}, 9)}, true)
	}
	checkTable(t, tableOf(alwaysUnknown), true)
	checkTable(t, tableOf(alwaysFalse), true)
	checkTable(t, tableOf(alwaysTrue), true)
}

func TestP45AllTables(t *testing.T) {
	list := allTables()
	if len(list) != 19683 {
		t.Fatalf("%d tables", len(list))
	}
	for _, text := range list {
		checkTable(t, tableOf(text), true)
	}
}

func TestP45OnePlace(t *testing.T) {
	for _, text := range knownTables() {
		for place := range 9 {
			for v := -4; v <= 12; v++ {
				checkTable(t, impl.Table{At: changedAt(tableOf(text).At, place, v)}, v >= 0 && v <= 2)
			}
		}
	}
}

func TestP45NineAlone(t *testing.T) {
	for length := range 40 {
		for v := range 3 {
			checkTable(t, impl.Table{At: slices.Repeat([]int{v}, length)}, length == 9)
			// The values behind a table are none of it.
			checkTable(t, impl.Table{At: slices.Repeat([]int{v}, 50)[:length]}, length == 9)
		}
	}
	checkTable(t, impl.Table{At: withTablesBehind(tableOf(lesserOfBoth).At)}, true)
	checkTable(t, impl.Table{At: []int{0, 1, 2, 0, 1, 2, 0, 1, 2, 9, -1}[:9]}, true)
	checkTable(t, impl.Table{At: []int{9, 0, 1, 2, 0, 1, 2, 0, 1, 2}[1:]}, true)
}

func TestP45OthersAreNoTables(t *testing.T) {
	eachNoTable(func(x impl.Table) { checkTable(t, x, false) })
}

func TestP45TablesStayAsTheyAre(t *testing.T) {
	eachHanded(t, func(x impl.Table) { impl.TableOk(x) })
}

// P46: Tables tell values.
func TestP46NamedByHand(t *testing.T) {
	for number, want := range namedByHand {
		checkNamed(t, number, want)
		x := named(t, number)
		for a := range 3 {
			for b := range 3 {
				checkAt(t, x, a, b, told(want, a, b))
			}
		}
	}
}

func TestP46NamedInWords(t *testing.T) {
	words := []func(a, b int) int{
		func(a, b int) int { return impl.LesserOf(2, a, b) },
		func(a, b int) int { return impl.GreaterOf(2, a, b) },
		func(a, b int) int { return impl.GreaterOf(2, 2-a, b) },
		func(a, b int) int { return impl.FollowsOf(2, a, b) },
		func(a, b int) int { return impl.FollowsBy(impl.Lesser, 2, a, b) },
		func(a, b int) int {
			if a == 1 || b == 1 {
				return 1
			}
			return impl.LesserOf(2, a, b)
		},
	}
	for number, tells := range words {
		checkNamed(t, number, textBy(tells))
	}
}

func TestP46FollowsIsNamed(t *testing.T) {
	x := named(t, 3)
	for a := range 3 {
		for b := range 3 {
			checkAt(t, x, a, b, impl.FollowsOf(2, a, b))
		}
	}
}

func TestP46NamesAreDifferent(t *testing.T) {
	for number := range impl.Tables {
		for other := range number {
			if slices.Equal(named(t, number).At, named(t, other).At) {
				t.Errorf("the tables %d and %d are the same", other, number)
			}
		}
	}
}

// The first value is counted up slowest: each table is asked for each two values.
func TestP46AllTables(t *testing.T) {
	for _, text := range allTables() {
		x, place := tableOf(text), 0
		for a := range 3 {
			for b := range 3 {
				checkAt(t, x, a, b, x.At[place])
				place++
			}
		}
	}
}

func TestP46OnePlaceTellsOtherwise(t *testing.T) {
	for _, text := range knownTables() {
		for place := range 9 {
			for v := range 3 {
				x := impl.Table{At: changedAt(tableOf(text).At, place, v)}
				checkAt(t, x, place/3, place%3, v)
				checkAt(t, x, (place/3+1)%3, place%3, told(text, (place/3+1)%3, place%3))
				checkAt(t, x, place/3, (place%3+1)%3, told(text, place/3, (place%3+1)%3))
			}
		}
	}
}

func TestP46TablesOfOnePlace(t *testing.T) {
	for a := range 3 {
		for b := range 3 {
			checkAt(t, tableOf(firstOfBoth), a, b, a)
			checkAt(t, tableOf(secondOfBoth), a, b, b)
			checkAt(t, tableOf(alwaysFalse), a, b, 0)
			checkAt(t, tableOf(alwaysUnknown), a, b, 1)
			checkAt(t, tableOf(alwaysTrue), a, b, 2)
		}
	}
}

func TestP46OtherValuesAreNotTold(t *testing.T) {
	for _, text := range knownTables() {
		x := tableOf(text)
		for a := -12; a <= 12; a++ {
			for b := -12; b <= 12; b++ {
				if a < 0 || a > 2 || b < 0 || b > 2 {
					checkAt(t, x, a, b, -1)
				}
			}
		}
		for _, other := range noTruths {
			for v := range 3 {
				checkAt(t, x, other, v, -1)
				checkAt(t, x, v, other, -1)
			}
			for _, another := range noTruths {
				checkAt(t, x, other, another, -1)
			}
		}
	}
}

func TestP46OtherTablesTellNothing(t *testing.T) {
	eachNoTable(func(x impl.Table) {
		for a := -1; a <= 3; a++ {
			for b := -1; b <= 3; b++ {
				checkAt(t, x, a, b, -1)
			}
		}
		checkAt(t, x, math.MaxInt, math.MinInt, -1)
	})
}

func TestP46OthersHaveNoNames(t *testing.T) {
	for number := -300; number <= 300; number++ {
		if number < 0 || number >= 6 {
			checkNamed(t, number, "")
		}
	}
	for _, number := range noTableNumbers {
		checkNamed(t, number, "")
	}
}

func TestP46NewMemory(t *testing.T) {
	for number, want := range namedByHand {
		first, second := named(t, number), named(t, number)
		spoil(first)
		checkTold(t, "a table handed back before", second, want)
		for other, wanted := range namedByHand {
			checkNamed(t, other, wanted)
		}
	}
}

func TestP46TablesStayAsTheyAre(t *testing.T) {
	eachHanded(t, func(x impl.Table) {
		for a := -1; a <= 3; a++ {
			for b := -1; b <= 3; b++ {
				impl.TableAt(x, a, b)
			}
		}
	})
}

// P47: Four tables are regular.
func TestP47NamedTables(t *testing.T) {
	for number, want := range namedRegular {
		checkRegular(t, named(t, number), want)
		checkRegular(t, tableOf(namedByHand[number]), want)
	}
}

func TestP47RegularByHand(t *testing.T) {
	for _, x := range regularByHand {
		checkRegular(t, tableOf(x.text), x.want)
	}
}

func TestP47RegularInWords(t *testing.T) {
	regular := 0
	for _, text := range allTables() {
		checkRegular(t, tableOf(text), regularInWords(text))
		if impl.RegularOk(tableOf(text)) {
			regular++
		}
	}
	// Two tables tell for 1 and 1 what they tell for all. Of the others, by what 0 and 2 tell with 1 behind them: 11*11 if neither tells, 4 times 4*4 if one of them does, and 2 times 2*2, and 2, if both do.
	if regular != 2+121+64+8+2 {
		t.Errorf("%d tables are regular", regular)
	}
}

func TestP47OnePlaceApart(t *testing.T) {
	for _, text := range knownTables() {
		for place := range 9 {
			for v := range 3 {
				row := changedAt(tableOf(text).At, place, v)
				checkRegular(t, impl.Table{At: row}, regularInWords(keyOf(row)))
			}
		}
	}
}

// Exchanged places, and false and true exchanged in all that is told, leave a table regular or not.
func TestP47Exchanged(t *testing.T) {
	for i, text := range allTables() {
		if i%7 != 0 {
			continue
		}
		want := impl.RegularOk(tableOf(text))
		checkRegular(t, tableOf(textBy(func(a, b int) int { return told(text, b, a) })), want)
		checkRegular(t, tableOf(textBy(func(a, b int) int { return 2 - told(text, a, b) })), want)
		checkRegular(t, tableOf(textBy(func(a, b int) int { return told(text, 2-a, b) })), want)
	}
}

func TestP47OthersAreNotRegular(t *testing.T) {
	eachNoTable(func(x impl.Table) { checkRegular(t, x, false) })
}

func TestP47TablesStayAsTheyAre(t *testing.T) {
	eachHanded(t, func(x impl.Table) { impl.RegularOk(x) })
}

// P48: Regular tables keep what they tell.
func TestP48AlwaysTheSame(t *testing.T) {
	for v := range 3 {
		checkRegular(t, impl.Table{At: slices.Repeat([]int{v}, 9)}, true)
	}
}

func TestP48ToldForUnknownIsToldForAll(t *testing.T) {
	count := 0
	for _, text := range allTables() {
		x := tableOf(text)
		v := impl.TableAt(x, 1, 1)
		if !impl.RegularOk(x) || v == 1 {
			continue
		}
		count++
		for a := range 3 {
			for b := range 3 {
				checkAt(t, x, a, b, v)
			}
		}
	}
	if count != 2 {
		t.Errorf("%d regular tables tell for 1 and 1 what is not 1", count)
	}
}

func TestP48ToldWithOneUnknownIsKept(t *testing.T) {
	for _, text := range allTables() {
		if !impl.RegularOk(tableOf(text)) {
			continue
		}
		for v := range 3 {
			for known := range 3 {
				if said := told(text, 1, v); said != 1 && told(text, known, v) != said {
					t.Errorf("%s tells %d for 1 and %d, but not for %d", text, said, v, known)
				}
				if said := told(text, v, 1); said != 1 && told(text, v, known) != said {
					t.Errorf("%s tells %d for %d and 1, but not for %d", text, said, v, known)
				}
			}
		}
	}
}

// P49: Regular tables put into regular tables are regular.
func TestP49PutByHand(t *testing.T) {
	checkPut(t, lesserOfBoth, greaterOfBoth, greaterOfBoth, greaterOfBoth)
	checkPut(t, lesserOfBoth, greaterOfBoth, secondOfBoth, secondOfBoth)
	checkPut(t, lesserOfBoth, lesserOfBoth, greaterOfBoth, lesserOfBoth)
	checkPut(t, greaterOfBoth, "222111000", secondOfBoth, "222112012")
	checkPut(t, "222112012", secondOfBoth, firstOfBoth, "210211222")
	checkPut(t, "222122012", firstOfBoth, firstOfBoth, alwaysTrue)
	checkPut(t, "222112012", firstOfBoth, firstOfBoth, "222111222")
	checkPut(t, "222022012", firstOfBoth, alwaysFalse, "222000000")
	checkPut(t, "222122012", "222122012", secondOfBoth, greaterOfBoth)
	checkPut(t, "222022012", "222022012", secondOfBoth, "012212222")
	checkPut(t, "010111012", firstOfBoth, "210210210", "010111210")
	checkPut(t, "210111012", firstOfBoth, secondOfBoth, "210111012")
	checkPut(t, "000111222", "201120012", alwaysUnknown, "201120012")
	checkPut(t, "021102210", "012120201", "210021102", "102102102")
}

func TestP49TablesOfOnePlace(t *testing.T) {
	source := rand.New(rand.NewSource(10))
	list := knownTables()
	for range 40 {
		list = append(list, someTable(source))
	}
	for _, x := range list {
		checkPut(t, x, firstOfBoth, secondOfBoth, x)
		checkPut(t, x, secondOfBoth, firstOfBoth, textBy(func(a, b int) int { return told(x, b, a) }))
		checkPut(t, x, firstOfBoth, firstOfBoth, textBy(func(a, _ int) int { return told(x, a, a) }))
		checkPut(t, x, secondOfBoth, secondOfBoth, textBy(func(_, b int) int { return told(x, b, b) }))
		for i, always := range []string{alwaysFalse, alwaysUnknown, alwaysTrue} {
			checkPut(t, x, firstOfBoth, always, textBy(func(a, _ int) int { return told(x, a, i) }))
			checkPut(t, x, always, firstOfBoth, textBy(func(a, _ int) int { return told(x, i, a) }))
			checkPut(t, x, always, always, strings.Repeat(x[4*i:4*i+1], 9))
			checkPut(t, always, x, always, always)
			checkPut(t, always, always, x, always)
		}
		for _, y := range list {
			checkPut(t, firstOfBoth, x, y, x)
			checkPut(t, secondOfBoth, x, y, y)
		}
	}
}

func TestP49ToldForWhatIsTold(t *testing.T) {
	source := rand.New(rand.NewSource(11))
	for i := range 20000 {
		x, y, z := tableOf(someTable(source)), tableOf(someTable(source)), tableOf(someTable(source))
		if i%3 == 0 {
			z = impl.Table{At: changedAt(y.At, source.Intn(9), source.Intn(3))}
		}
		put := impl.PutInto(x, y, z)
		checkTable(t, put, true)
		for a := range 3 {
			for b := range 3 {
				checkAt(t, put, a, b, impl.TableAt(x, impl.TableAt(y, a, b), impl.TableAt(z, a, b)))
			}
		}
	}
}

func TestP49KnownIntoKnown(t *testing.T) {
	for _, x := range knownTables() {
		for _, y := range knownTables() {
			for _, z := range knownTables() {
				checkPut(t, x, y, z, textBy(func(a, b int) int { return told(x, told(y, a, b), told(z, a, b)) }))
			}
		}
	}
}

func TestP49RegularIntoRegular(t *testing.T) {
	regular := map[string]bool{}
	for _, text := range allTables() {
		regular[text] = impl.RegularOk(tableOf(text))
	}
	list := regularTables()
	for i, x := range list {
		for j, y := range list {
			for third := range 8 {
				z := list[(i*7+j*5+third*24)%len(list)]
				put := impl.PutInto(tableOf(x), tableOf(y), tableOf(z))
				if !regular[textOfTable(put)] {
					t.Fatalf("PutInto(%s, %s, %s) is %s, which is not regular", x, y, z, textOfTable(put))
				}
			}
		}
	}
}

// Of tables that are not all regular the result may be regular or not.
func TestP49OthersMayNotBeRegular(t *testing.T) {
	strange := "222122012"
	checkRegular(t, impl.PutInto(tableOf(strange), tableOf(firstOfBoth), tableOf(secondOfBoth)), false)
	checkRegular(t, impl.PutInto(tableOf(lesserOfBoth), tableOf(strange), tableOf(alwaysTrue)), false)
	checkRegular(t, impl.PutInto(tableOf(lesserOfBoth), tableOf(alwaysTrue), tableOf(strange)), false)
	checkRegular(t, impl.PutInto(tableOf(lesserOfBoth), tableOf(strange), tableOf(alwaysFalse)), true)
	checkRegular(t, impl.PutInto(tableOf(strange), tableOf(firstOfBoth), tableOf(firstOfBoth)), true)
}

func TestP49OthersArePutNowhere(t *testing.T) {
	eachNoTable(func(x impl.Table) {
		good, other := tableOf(lesserOfBoth), tableOf(alwaysUnknown)
		checkTold(t, "what is put into no table", impl.PutInto(x, good, other), "")
		checkTold(t, "no table put first", impl.PutInto(good, x, other), "")
		checkTold(t, "no table put second", impl.PutInto(other, good, x), "")
		checkTold(t, "no tables put into a table", impl.PutInto(good, x, x), "")
		checkTold(t, "no table put into no tables", impl.PutInto(x, x, x), "")
		// Tables that do not look at a place must be handed a table there all the same.
		checkTold(t, "no table where none is looked at", impl.PutInto(tableOf(firstOfBoth), good, x), "")
		checkTold(t, "no table where none is looked at", impl.PutInto(tableOf(secondOfBoth), x, good), "")
		checkTold(t, "no table where none is looked at", impl.PutInto(tableOf(alwaysFalse), x, x), "")
	})
}

func TestP49NewMemory(t *testing.T) {
	for _, x := range knownTables() {
		for _, y := range knownTables() {
			first, second, third := withTablesBehind(tableOf(x).At), withTablesBehind(tableOf(y).At), withTablesBehind(tableOf(y).At)
			put := impl.PutInto(impl.Table{At: first}, impl.Table{At: second}, impl.Table{At: third})
			again := impl.PutInto(impl.Table{At: first}, impl.Table{At: second}, impl.Table{At: third})
			spoil(put)
			checkTold(t, "a table handed back before", again, textBy(func(a, b int) int { return told(x, told(y, a, b), told(y, a, b)) }))
			for i, handed := range [][]int{first, second, third} {
				want := withTablesBehind(tableOf([]string{x, y, y}[i]).At)
				if !slices.Equal(handed[:cap(handed)], want[:cap(handed)]) {
					t.Errorf("PutInto(%s, %s, %s): writing to the result changes %v to %v", x, y, y, want[:cap(handed)], handed[:cap(handed)])
				}
			}
		}
	}
}

// The same memory handed over at each place, the result of which is handed over again.
func TestP49SameMemory(t *testing.T) {
	for _, text := range knownTables() {
		x := tableOf(text)
		put := impl.PutInto(x, x, x)
		want := textBy(func(a, b int) int { return told(text, told(text, a, b), told(text, a, b)) })
		checkTold(t, "a table put into itself", put, want)
		checkTold(t, "a table after it was put into itself", x, text)
		again := impl.PutInto(put, put, x)
		spoil(again)
		checkTold(t, "a table put into others", put, want)
		spoil(put)
		checkTold(t, "a table after it was put into others", x, text)
	}
}

func TestP49LaterChangesDoNotMatter(t *testing.T) {
	x, y, z := tableOf(firstOfBoth), tableOf(lesserOfBoth), tableOf(greaterOfBoth)
	put, other := impl.PutInto(x, y, z), impl.PutInto(tableOf(secondOfBoth), y, z)
	spoil(x)
	spoil(y)
	spoil(z)
	checkTold(t, "a table put together before", put, lesserOfBoth)
	checkTold(t, "a table put together before", other, greaterOfBoth)
}

func TestP49TablesStayAsTheyAre(t *testing.T) {
	eachHanded(t, func(x impl.Table) {
		impl.PutInto(x, x, x)
		impl.PutInto(x, tableOf(lesserOfBoth), tableOf(alwaysUnknown))
		impl.PutInto(tableOf(lesserOfBoth), x, tableOf(alwaysUnknown))
		impl.PutInto(tableOf(lesserOfBoth), tableOf(alwaysUnknown), x)
	})
}

// P50: The strong table tells most.
func TestP50StrongByHand(t *testing.T) {
	for number, want := range strongByHand {
		checkStrong(t, number, want)
	}
}

func TestP50FirstAndLast(t *testing.T) {
	checkStrong(t, 0, alwaysFalse)
	checkStrong(t, 15, alwaysTrue)
	checkStrong(t, 10, secondOfBoth)
	checkStrong(t, 12, firstOfBoth)
}

// plainAt tells what a table of false and true alone, told by its number, tells for two of these.
func plainAt(number int, a, b bool) bool {
	switch {
	case !a && !b:
		return number%2 == 1
	case !a:
		return number/2%2 == 1
	case !b:
		return number/4%2 == 1
	}
	return number/8 == 1
}

// strongInWords tells what a strong table tells for two values, as the document says it.
func strongInWords(number, a, b int) int {
	some := map[bool]bool{}
	for _, first := range []bool{false, true} {
		for _, second := range []bool{false, true} {
			if (a == 1 || first == (a == 2)) && (b == 1 || second == (b == 2)) {
				some[plainAt(number, first, second)] = true
			}
		}
	}
	switch {
	case some[true] && some[false]:
		return 1
	case some[true]:
		return 2
	}
	return 0
}

func TestP50StrongInWords(t *testing.T) {
	for number := range 16 {
		checkStrong(t, number, textBy(func(a, b int) int { return strongInWords(number, a, b) }))
	}
}

func TestP50FalseAndTrueAreToldAlike(t *testing.T) {
	for number := range 16 {
		x := impl.StrongOf(number)
		for i, pair := range [][2]int{{0, 0}, {0, 2}, {2, 0}, {2, 2}} {
			checkAt(t, x, pair[0], pair[1], number>>i&1*2)
		}
	}
}

func TestP50StrongAreRegular(t *testing.T) {
	for number := range 16 {
		x := impl.StrongOf(number)
		checkTable(t, x, true)
		checkRegular(t, x, true)
		if !regularInWords(textOfTable(x)) {
			t.Errorf("StrongOf(%d) is %s, which is not regular", number, textOfTable(x))
		}
	}
}

func TestP50TellsMost(t *testing.T) {
	list := regularTables()
	for number := range 16 {
		strong, weaker := impl.StrongOf(number), 0
		for _, text := range list {
			x := tableOf(text)
			if x.At[0] != strong.At[0] || x.At[2] != strong.At[2] || x.At[6] != strong.At[6] || x.At[8] != strong.At[8] {
				continue
			}
			weaker++
			for place, v := range x.At {
				if v != 1 && strong.At[place] != v {
					t.Errorf("StrongOf(%d) is %s, but %s tells %d there", number, textOfTable(strong), text, v)
				}
			}
		}
		if weaker == 0 {
			t.Errorf("no regular table tells what that of %d does", number)
		}
	}
}

func TestP50LesserAndGreater(t *testing.T) {
	for number, name := range map[int]int{8: 0, 14: 1, 11: 2} {
		checkStrong(t, number, textOfTable(named(t, name)))
	}
}

func TestP50Opposites(t *testing.T) {
	for number := range 16 {
		x := impl.StrongOf(number)
		checkStrong(t, 15-number, textBy(func(a, b int) int { return 2 - impl.TableAt(x, a, b) }))
	}
}

func TestP50NewMemory(t *testing.T) {
	for number, want := range strongByHand {
		first, second := impl.StrongOf(number), impl.StrongOf(number)
		spoil(first)
		checkTold(t, "a table handed back before", second, want)
		for other, wanted := range strongByHand {
			checkStrong(t, other, wanted)
		}
	}
}

func TestP50OthersAreNotStrong(t *testing.T) {
	for number := -300; number <= 300; number++ {
		if number < 0 || number > 15 {
			checkStrong(t, number, "")
		}
	}
	for _, number := range noTableNumbers {
		checkStrong(t, number, "")
	}
}
