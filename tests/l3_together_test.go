package tests

import (
	"fmt"
	"math"
	"slices"
	"testing"

	"loop.example/manyvalues/impl"
)

// wayNames has the names of all ways, in the order of their numbers.
var wayNames = []string{"Lacking", "Lesser", "Strict"}

// badWays are numbers of which there is no way.
var badWays = []int{math.MinInt, math.MinInt + 1, math.MinInt32, -3, -2, -1, 3, 4, 5, 6, 256, 1 << 32, 1<<32 + 1, 1<<32 + 2, math.MaxInt - 1, math.MaxInt}

// handTogether has, for each way, and for chains of one, two and three steps, a (by rows) and b taken together, written out by hand: for Lacking and Lesser they are the tables of TimesOf and LesserOf.
var handTogether = [][][][]int{
	handTables[2],
	handTables[3],
	{
		{{0, 0}, {0, 1}},
		{{0, 0, 0}, {0, 0, 1}, {0, 1, 2}},
		{{0, 0, 0, 0}, {0, 0, 0, 1}, {0, 0, 0, 2}, {0, 1, 2, 3}},
	},
}

// handFollows has, for the same ways and chains, what tells that b follows of a (by rows), written out by hand: for Lacking it is the table of FollowsOf.
var handFollows = [][][][]int{
	handTables[0],
	{
		{{1, 1}, {0, 1}},
		{{2, 2, 2}, {0, 2, 2}, {0, 1, 2}},
		{{3, 3, 3, 3}, {0, 3, 3, 3}, {0, 1, 3, 3}, {0, 1, 2, 3}},
	},
	{
		{{1, 1}, {0, 1}},
		{{2, 2, 2}, {1, 2, 2}, {0, 1, 2}},
		{{3, 3, 3, 3}, {2, 3, 3, 3}, {2, 2, 3, 3}, {0, 1, 2, 3}},
	},
}

// handNot has, for each way, and for the chains from one step to six, what tells that false follows of each value, written out by hand.
var handNot = [][][]int{
	{{1, 0}, {2, 1, 0}, {3, 2, 1, 0}, {4, 3, 2, 1, 0}, {5, 4, 3, 2, 1, 0}, {6, 5, 4, 3, 2, 1, 0}},
	{{1, 0}, {2, 0, 0}, {3, 0, 0, 0}, {4, 0, 0, 0, 0}, {5, 0, 0, 0, 0, 0}, {6, 0, 0, 0, 0, 0, 0}},
	{{1, 0}, {2, 1, 0}, {3, 2, 2, 0}, {4, 3, 3, 3, 0}, {5, 4, 4, 4, 4, 0}, {6, 5, 5, 5, 5, 5, 0}},
}

// handDivisible has, for each way, whether it is divisible in the chains from one step to six.
var handDivisible = [][]bool{
	{true, true, true, true, true, true},
	{true, true, true, true, true, true},
	{true, true, false, false, false, false},
}

// handSelf has, for each way, the values of the chains from one step to six that are themselves taken together with themselves.
var handSelf = [][][]int{
	{{0, 1}, {0, 2}, {0, 3}, {0, 4}, {0, 5}, {0, 6}},
	{{0, 1}, {0, 1, 2}, {0, 1, 2, 3}, {0, 1, 2, 3, 4}, {0, 1, 2, 3, 4, 5}, {0, 1, 2, 3, 4, 5, 6}},
	{{0, 1}, {0, 2}, {0, 3}, {0, 4}, {0, 5}, {0, 6}},
}

// wayOfTwo is what a way makes of two values: taken together, or that one follows.
type wayOfTwo struct {
	name   string
	of     func(way, steps, a, b int) int
	byHand [][][][]int
}

var (
	togetherByWay = wayOfTwo{"TogetherBy", impl.TogetherBy, handTogether}
	followsByWay  = wayOfTwo{"FollowsBy", impl.FollowsBy, handFollows}
)

// eachWay calls a function for each way.
func eachWay(check func(way int)) {
	for way := range wayNames {
		check(way)
	}
}

// eachNoWayOrChain calls a function for a way and steps of which at least one is none.
func eachNoWayOrChain(check func(way, steps int)) {
	for _, steps := range badSteps {
		eachWay(func(way int) { check(way, steps) })
	}
	for _, way := range badWays {
		for steps := 1; steps <= 6; steps++ {
			check(way, steps)
		}
		for _, steps := range badSteps {
			check(way, steps)
		}
	}
}

// inWay tells a function and a way, for a message.
func inWay(name string, way int) string {
	return fmt.Sprintf("%s in way %d (%s)", name, way, wayNames[way])
}

// checkByHand checks what ways make of two values against the tables.
func (w wayOfTwo) checkByHand(t *testing.T) {
	t.Helper()
	for way, tables := range w.byHand {
		for i, table := range tables {
			for a, row := range table {
				for b, want := range row {
					equals(t, inWay(w.name, way), i+1, a, b, w.of(way, i+1, a, b), want)
				}
			}
		}
	}
}

// checkInWords checks what ways make of small numbers, ways and values or not, against a function that tells it otherwise.
func (w wayOfTwo) checkInWords(t *testing.T, told func(way, steps, a, b int) int) {
	t.Helper()
	for way := -2; way <= 5; way++ {
		for steps := -2; steps <= 9; steps++ {
			for a := -3; a <= 10; a++ {
				for b := -3; b <= 10; b++ {
					want := -1
					if 0 <= way && way <= 2 && 1 <= steps && steps <= 6 && 0 <= a && a <= steps && 0 <= b && b <= steps {
						want = told(way, steps, a, b)
					}
					equals(t, fmt.Sprintf("%s in way %d", w.name, way), steps, a, b, w.of(way, steps, a, b), want)
				}
			}
		}
	}
}

// checkRefuses checks that ways make nothing of numbers that are no values, and other ways nothing at all.
func (w wayOfTwo) checkRefuses(t *testing.T) {
	t.Helper()
	eachWay(func(way int) {
		eachNoPair(func(steps, a, b int) {
			equals(t, inWay(w.name, way), steps, a, b, w.of(way, steps, a, b), -1)
		})
	})
	for _, way := range badWays {
		refuse := func(steps, a, b int) {
			equals(t, fmt.Sprintf("%s in way %d", w.name, way), steps, a, b, w.of(way, steps, a, b), -1)
		}
		eachPair(refuse)
		eachNoPair(refuse)
	}
}

func TestNumbersOfWays(t *testing.T) {
	if impl.Lacking != 0 || impl.Lesser != 1 || impl.Strict != 2 || impl.Ways != 3 {
		t.Fatal(impl.Lacking, impl.Lesser, impl.Strict, impl.Ways)
	}
}

// P12: Ways are ways.
func TestP12Exchanged(t *testing.T) {
	eachWay(func(way int) {
		eachPair(func(steps, a, b int) {
			equals(t, inWay("exchanged", way), steps, a, b, impl.TogetherBy(way, steps, b, a), impl.TogetherBy(way, steps, a, b))
		})
	})
}

func TestP12InAnyBrackets(t *testing.T) {
	eachWay(func(way int) {
		eachTriple(func(steps, a, b, c int) {
			ahead := impl.TogetherBy(way, steps, impl.TogetherBy(way, steps, a, b), c)
			behind := impl.TogetherBy(way, steps, a, impl.TogetherBy(way, steps, b, c))
			equals(t, inWay("with a third value in other brackets", way), steps, a, b, behind, ahead)
		})
	})
}

func TestP12WithFalseAndTrue(t *testing.T) {
	eachWay(func(way int) {
		eachValue(func(steps, a int) {
			equals(t, inWay("together with the steps", way), steps, a, steps, impl.TogetherBy(way, steps, a, steps), a)
			equals(t, inWay("the steps together with it", way), steps, steps, a, impl.TogetherBy(way, steps, steps, a), a)
			equals(t, inWay("together with 0", way), steps, a, 0, impl.TogetherBy(way, steps, a, 0), 0)
			equals(t, inWay("0 together with it", way), steps, 0, a, impl.TogetherBy(way, steps, 0, a), 0)
		})
	})
}

func TestP12WithAGreaterValueNoLess(t *testing.T) {
	eachWay(func(way int) {
		eachTriple(func(steps, a, b, c int) {
			if less, more := impl.TogetherBy(way, steps, a, b), impl.TogetherBy(way, steps, a, c); b <= c && less > more {
				t.Errorf("chain of %d steps: %s: %d with %d is %d, but with %d %d", steps, wayNames[way], a, b, less, c, more)
			}
		})
	})
}

func TestP12ValuesOfSigns(t *testing.T) {
	eachPair(func(steps, a, b int) {
		equals(t, "Lacking", steps, a, b, impl.TogetherBy(impl.Lacking, steps, a, b), impl.TimesOf(steps, a, b))
		equals(t, "Lesser", steps, a, b, impl.TogetherBy(impl.Lesser, steps, a, b), impl.LesserOf(steps, a, b))
	})
}

func TestP12TogetherInWords(t *testing.T) {
	togetherByWay.checkByHand(t)
	togetherByWay.checkInWords(t, func(way, steps, a, b int) int {
		lacking := (steps - a) + (steps - b)
		switch {
		case way == 0 && lacking > steps:
			return 0
		case way == 0:
			return steps - lacking
		case way == 2 && a < steps && b < steps:
			return 0
		case a < b:
			return a
		}
		return b
	})
}

// In the shortest chains ways are the same: this tells just where they begin to part.
func TestP12ShortChains(t *testing.T) {
	differ := func(way, other, steps int) bool {
		for a := 0; a <= steps; a++ {
			for b := 0; b <= steps; b++ {
				if impl.TogetherBy(way, steps, a, b) != impl.TogetherBy(other, steps, a, b) {
					return true
				}
			}
		}
		return false
	}
	for steps := 1; steps <= 6; steps++ {
		if differ(impl.Lacking, impl.Lesser, steps) != (steps > 1) {
			t.Errorf("chain of %d steps: Lacking and Lesser", steps)
		}
		if differ(impl.Lesser, impl.Strict, steps) != (steps > 1) {
			t.Errorf("chain of %d steps: Lesser and Strict", steps)
		}
		if differ(impl.Lacking, impl.Strict, steps) != (steps > 2) {
			t.Errorf("chain of %d steps: Lacking and Strict", steps)
		}
	}
}

func TestP12OthersAreNotTakenTogether(t *testing.T) {
	togetherByWay.checkRefuses(t)
}

// P13: Following is the other side of taking together.
func TestP13TheOtherSide(t *testing.T) {
	eachWay(func(way int) {
		eachTriple(func(steps, a, b, c int) {
			together := impl.TogetherBy(way, steps, c, a) <= b
			if follows := c <= impl.FollowsBy(way, steps, a, b); together != follows {
				t.Errorf("chain of %d steps: %s: %d with %d at most %d: %v, but follows %v", steps, wayNames[way], c, a, b, together, follows)
			}
		})
	})
}

func TestP13TrueExactlyIfNoLess(t *testing.T) {
	eachWay(func(way int) {
		eachPair(func(steps, a, b int) {
			if got := impl.FollowsBy(way, steps, a, b); (got == steps) != (a <= b) {
				t.Errorf("FollowsBy(%s, %d, %d, %d) is %d", wayNames[way], steps, a, b, got)
			}
		})
	})
}

func TestP13LackingIsFollowing(t *testing.T) {
	eachPair(func(steps, a, b int) {
		equals(t, "following for Lacking", steps, a, b, impl.FollowsBy(impl.Lacking, steps, a, b), impl.FollowsOf(steps, a, b))
	})
}

func TestP13OfFalseAndTrue(t *testing.T) {
	eachWay(func(way int) {
		eachValue(func(steps, a int) {
			equals(t, inWay("of false", way), steps, 0, a, impl.FollowsBy(way, steps, 0, a), steps)
			equals(t, inWay("of true", way), steps, steps, a, impl.FollowsBy(way, steps, steps, a), a)
			equals(t, inWay("that true follows", way), steps, a, steps, impl.FollowsBy(way, steps, a, steps), steps)
		})
	})
}

func TestP13FollowsInWords(t *testing.T) {
	followsByWay.checkByHand(t)
	followsByWay.checkInWords(t, func(way, steps, a, b int) int {
		switch {
		case a <= b:
			return steps
		case way == 0:
			return steps - (a - b)
		case way == 2 && a < steps:
			return steps - 1
		}
		return b
	})
}

func TestP13OfOthersNothingFollows(t *testing.T) {
	followsByWay.checkRefuses(t)
}

// P14: Opposites of three are opposites of one.
func TestP14ThreeTimesAsOnce(t *testing.T) {
	eachWay(func(way int) {
		eachValue(func(steps, a int) {
			once := impl.NotBy(way, steps, a)
			thrice := impl.NotBy(way, steps, impl.NotBy(way, steps, once))
			if thrice != once {
				t.Errorf("NotBy(%s, %d, %d) is %d, but three times %d", wayNames[way], steps, a, once, thrice)
			}
		})
	})
}

func TestP14TwiceNoLess(t *testing.T) {
	eachWay(func(way int) {
		eachValue(func(steps, a int) {
			if twice := impl.NotBy(way, steps, impl.NotBy(way, steps, a)); twice < a || twice > steps {
				t.Errorf("NotBy(%s, %d, %d) twice is %d", wayNames[way], steps, a, twice)
			}
		})
	})
}

func TestP14LackingIsTheOpposite(t *testing.T) {
	eachValue(func(steps, a int) {
		if got, want := impl.NotBy(impl.Lacking, steps, a), impl.NotOf(steps, a); got != want {
			t.Errorf("NotBy(Lacking, %d, %d) is %d, but the opposite %d", steps, a, got, want)
		}
	})
}

func TestP14LesserIsFalseButForFalse(t *testing.T) {
	eachValue(func(steps, a int) {
		want := 0
		if a == 0 {
			want = steps
		}
		if got := impl.NotBy(impl.Lesser, steps, a); got != want {
			t.Errorf("NotBy(Lesser, %d, %d) is %d, not %d", steps, a, got, want)
		}
	})
}

func TestP14FalseFollows(t *testing.T) {
	eachWay(func(way int) {
		eachValue(func(steps, a int) {
			if not, follows := impl.NotBy(way, steps, a), impl.FollowsBy(way, steps, a, 0); not != follows {
				t.Errorf("NotBy(%s, %d, %d) is %d, but that false follows %d", wayNames[way], steps, a, not, follows)
			}
		})
	})
}

func TestP14OppositesByHand(t *testing.T) {
	for way, rows := range handNot {
		for i, row := range rows {
			for a, want := range row {
				if got := impl.NotBy(way, i+1, a); got != want {
					t.Errorf("NotBy(%s, %d, %d) is %d, not %d", wayNames[way], i+1, a, got, want)
				}
			}
		}
	}
}

func TestP14OthersHaveNoOpposite(t *testing.T) {
	refuse := func(way, steps, a int) {
		if got := impl.NotBy(way, steps, a); got != -1 {
			t.Errorf("NotBy(%d, %d, %d) is %d", way, steps, a, got)
		}
	}
	eachWay(func(way int) {
		eachNoValue(func(steps, a int) { refuse(way, steps, a) })
	})
	for _, way := range badWays {
		eachValue(func(steps, a int) { refuse(way, steps, a) })
		eachNoValue(func(steps, a int) { refuse(way, steps, a) })
	}
}

// P15: Two ways are divisible.
func TestP15DivisibleWays(t *testing.T) {
	for way, row := range handDivisible {
		for i, want := range row {
			if got := impl.DivisibleOk(way, i+1); got != want {
				t.Errorf("DivisibleOk(%s, %d) is %v", wayNames[way], i+1, got)
			}
		}
	}
}

func TestP15LesserOfEachTwo(t *testing.T) {
	divisible := map[[2]int]bool{}
	eachWay(func(way int) {
		eachPair(func(steps, a, b int) {
			key := [2]int{way, steps}
			if _, ok := divisible[key]; !ok {
				divisible[key] = true
			}
			if impl.TogetherBy(way, steps, a, impl.FollowsBy(way, steps, a, b)) != impl.LesserOf(steps, a, b) {
				divisible[key] = false
			}
		})
	})
	for key, want := range divisible {
		if got := impl.DivisibleOk(key[0], key[1]); got != want {
			t.Errorf("DivisibleOk(%s, %d) is %v, the values tell %v", wayNames[key[0]], key[1], got, want)
		}
	}
}

func TestP15OthersAreNotDivisible(t *testing.T) {
	eachNoWayOrChain(func(way, steps int) {
		if impl.DivisibleOk(way, steps) {
			// Without a bound, the greatest number of steps would be counted up to: so the first one ends the test.
			t.Fatalf("DivisibleOk(%d, %d)", way, steps)
		}
	})
}

// P16: What is itself together.
func TestP16ThemselvesByHand(t *testing.T) {
	for way, rows := range handSelf {
		for i, want := range rows {
			if got := impl.SelfOf(way, i+1); !slices.Equal(got, want) {
				t.Errorf("SelfOf(%s, %d) is %v, not %v", wayNames[way], i+1, got, want)
			}
		}
	}
}

func TestP16ExactlyThemselves(t *testing.T) {
	eachWay(func(way int) {
		for steps := 1; steps <= 6; steps++ {
			var want []int
			for v := 0; v <= steps; v++ {
				if impl.TogetherBy(way, steps, v, v) == v {
					want = append(want, v)
				}
			}
			if got := impl.SelfOf(way, steps); !slices.Equal(got, want) {
				t.Errorf("SelfOf(%s, %d) is %v, the values tell %v", wayNames[way], steps, got, want)
			}
		}
	})
}

func TestP16NewMemory(t *testing.T) {
	for way, rows := range handSelf {
		for i, want := range rows {
			first, second := impl.SelfOf(way, i+1), impl.SelfOf(way, i+1)
			spare := first[:cap(first)]
			for j := range spare {
				spare[j] = -7
			}
			if third := impl.SelfOf(way, i+1); !slices.Equal(second, want) || !slices.Equal(third, want) {
				t.Errorf("SelfOf(%s, %d): writing to one result changes others: %v, %v", wayNames[way], i+1, second, third)
			}
		}
	}
}

func TestP16OthersHaveNothing(t *testing.T) {
	eachNoWayOrChain(func(way, steps int) {
		if got := impl.SelfOf(way, steps); len(got) != 0 {
			// As for DivisibleOk, the first one ends the test.
			t.Fatalf("SelfOf(%d, %d) is %v", way, steps, got)
		}
	})
}
