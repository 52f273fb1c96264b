package tests

import (
	"math"
	"testing"

	"loop.example/manyvalues/impl"
)

// signOfTwo is a sign of two values, by the name of its function.
type signOfTwo struct {
	name string
	of   func(steps, a, b int) int
}

// signsOfTwo has all signs of two values.
var signsOfTwo = []signOfTwo{
	{"FollowsOf", impl.FollowsOf}, {"PlusOf", impl.PlusOf}, {"TimesOf", impl.TimesOf}, {"LesserOf", impl.LesserOf}, {"GreaterOf", impl.GreaterOf},
}

// handTables has, for the signs in the order of signsOfTwo, and for chains of one, two and three steps, what they make of a (by rows) and b, written out by hand.
var handTables = [][][][]int{
	{
		{{1, 1}, {0, 1}},
		{{2, 2, 2}, {1, 2, 2}, {0, 1, 2}},
		{{3, 3, 3, 3}, {2, 3, 3, 3}, {1, 2, 3, 3}, {0, 1, 2, 3}},
	},
	{
		{{0, 1}, {1, 1}},
		{{0, 1, 2}, {1, 2, 2}, {2, 2, 2}},
		{{0, 1, 2, 3}, {1, 2, 3, 3}, {2, 3, 3, 3}, {3, 3, 3, 3}},
	},
	{
		{{0, 0}, {0, 1}},
		{{0, 0, 0}, {0, 0, 1}, {0, 1, 2}},
		{{0, 0, 0, 0}, {0, 0, 0, 1}, {0, 0, 1, 2}, {0, 1, 2, 3}},
	},
	{
		{{0, 0}, {0, 1}},
		{{0, 0, 0}, {0, 1, 1}, {0, 1, 2}},
		{{0, 0, 0, 0}, {0, 1, 1, 1}, {0, 1, 2, 2}, {0, 1, 2, 3}},
	},
	{
		{{0, 1}, {1, 1}},
		{{0, 1, 2}, {1, 1, 2}, {2, 2, 2}},
		{{0, 1, 2, 3}, {1, 1, 2, 3}, {2, 2, 2, 3}, {3, 3, 3, 3}},
	},
}

// badTimes are numbers of times for which there is no value.
var badTimes = []int{math.MinInt, math.MinInt + 1, math.MinInt32, -10, -9, -2, -1, 10, 11, 16, 100, 256, 1 << 32, 1<<32 + 1, math.MaxInt - 1, math.MaxInt}

// eachPair calls a function for each two values of each chain.
func eachPair(check func(steps, a, b int)) {
	eachValue(func(steps, a int) {
		for b := 0; b <= steps; b++ {
			check(steps, a, b)
		}
	})
}

// eachTriple calls a function for each three values of each chain.
func eachTriple(check func(steps, a, b, c int)) {
	eachPair(func(steps, a, b int) {
		for c := 0; c <= steps; c++ {
			check(steps, a, b, c)
		}
	})
}

// eachNoPair calls a function for steps and two numbers of which at least one is no value of a chain.
func eachNoPair(check func(steps, a, b int)) {
	eachNoValue(func(steps, v int) {
		for _, w := range []int{math.MinInt, -1, 0, 1, steps, math.MaxInt} {
			check(steps, v, w)
			check(steps, w, v)
		}
		check(steps, v, v)
		for w := 0; w <= 6; w++ {
			check(steps, v, w)
			check(steps, w, v)
		}
	})
}

// equals reports an error if a call did not return what a promise tells.
func equals(t *testing.T, what string, steps, a, b, got, want int) {
	t.Helper()
	if got != want {
		t.Errorf("chain of %d steps, for %d and %d: %s: %d, not %d", steps, a, b, what, got, want)
	}
}

// byHand checks a sign, told by its place in signsOfTwo, against the tables.
func byHand(t *testing.T, place int) {
	t.Helper()
	for i, table := range handTables[place] {
		for a, row := range table {
			for b, want := range row {
				equals(t, signsOfTwo[place].name, i+1, a, b, signsOfTwo[place].of(i+1, a, b), want)
			}
		}
	}
}

// countedInWords checks a function of two values for small numbers, values or not, against one that counts what the document tells.
func countedInWords(t *testing.T, name string, of, told func(steps, a, b int) int) {
	t.Helper()
	for steps := -2; steps <= 9; steps++ {
		for a := -3; a <= 10; a++ {
			for b := -3; b <= 10; b++ {
				want := -1
				if 1 <= steps && steps <= 6 && 0 <= a && a <= steps && 0 <= b && b <= steps {
					want = told(steps, a, b)
				}
				equals(t, name, steps, a, b, of(steps, a, b), want)
			}
		}
	}
}

// inWords checks a sign, told by its place in signsOfTwo, against a function that counts what the document tells.
func inWords(t *testing.T, place int, told func(steps, a, b int) int) {
	t.Helper()
	countedInWords(t, signsOfTwo[place].name, signsOfTwo[place].of, told)
}

// refusesOthers checks that a sign has no value where one of both numbers is no value of a chain.
func refusesOthers(t *testing.T, place int) {
	t.Helper()
	eachNoPair(func(steps, a, b int) {
		equals(t, signsOfTwo[place].name, steps, a, b, signsOfTwo[place].of(steps, a, b), -1)
	})
}

// P5: Opposites of opposites are values.
func TestP5TwiceIsTheValue(t *testing.T) {
	eachValue(func(steps, a int) {
		if twice := impl.NotOf(steps, impl.NotOf(steps, a)); twice != a {
			t.Errorf("NotOf(%d, %d) twice is %d", steps, a, twice)
		}
	})
}

func TestP5FalseFollowsOfTheValue(t *testing.T) {
	eachValue(func(steps, a int) {
		if not, follows := impl.NotOf(steps, a), impl.FollowsOf(steps, a, 0); not != follows {
			t.Errorf("NotOf(%d, %d) is %d, but that false follows %d", steps, a, not, follows)
		}
	})
}

func TestP5OppositesByHand(t *testing.T) {
	for i, row := range [][]int{{1, 0}, {2, 1, 0}, {3, 2, 1, 0}, {4, 3, 2, 1, 0}, {5, 4, 3, 2, 1, 0}, {6, 5, 4, 3, 2, 1, 0}} {
		for a, want := range row {
			if got := impl.NotOf(i+1, a); got != want {
				t.Errorf("NotOf(%d, %d) is %d", i+1, a, got)
			}
		}
	}
}

func TestP5OthersHaveNoOpposite(t *testing.T) {
	eachNoValue(func(steps, a int) {
		if got := impl.NotOf(steps, a); got != -1 {
			t.Errorf("NotOf(%d, %d) is %d", steps, a, got)
		}
	})
}

// P6: What is no less true follows.
func TestP6TrueExactlyIfNoLess(t *testing.T) {
	eachPair(func(steps, a, b int) {
		if got := impl.FollowsOf(steps, a, b); (got == steps) != (a <= b) {
			t.Errorf("FollowsOf(%d, %d, %d) is %d", steps, a, b, got)
		}
	})
}

func TestP6IsTheOppositeAdded(t *testing.T) {
	eachPair(func(steps, a, b int) {
		equals(t, "opposite of a, added to b", steps, a, b, impl.PlusOf(steps, impl.NotOf(steps, a), b), impl.FollowsOf(steps, a, b))
	})
}

func TestP6OfOppositesExchanged(t *testing.T) {
	eachPair(func(steps, a, b int) {
		equals(t, "of opposites, exchanged", steps, a, b, impl.FollowsOf(steps, impl.NotOf(steps, b), impl.NotOf(steps, a)), impl.FollowsOf(steps, a, b))
	})
}

func TestP6FollowsInWords(t *testing.T) {
	byHand(t, 0)
	inWords(t, 0, func(steps, a, b int) int {
		if a <= b {
			return steps
		}
		return steps - (a - b)
	})
}

func TestP6OfOthersNothingFollows(t *testing.T) {
	refusesOthers(t, 0)
}

// P7: Algebras of many values.
func TestP7Exchanged(t *testing.T) {
	eachPair(func(steps, a, b int) {
		equals(t, "exchanged", steps, a, b, impl.PlusOf(steps, b, a), impl.PlusOf(steps, a, b))
	})
}

func TestP7InAnyBrackets(t *testing.T) {
	eachTriple(func(steps, a, b, c int) {
		ahead := impl.PlusOf(steps, impl.PlusOf(steps, a, b), c)
		behind := impl.PlusOf(steps, a, impl.PlusOf(steps, b, c))
		equals(t, "with a third value in other brackets", steps, a, b, behind, ahead)
	})
}

func TestP7WithFalseAndTrue(t *testing.T) {
	eachValue(func(steps, a int) {
		equals(t, "added to 0", steps, a, 0, impl.PlusOf(steps, a, 0), a)
		equals(t, "added to 0", steps, 0, a, impl.PlusOf(steps, 0, a), a)
		equals(t, "added to the steps", steps, a, steps, impl.PlusOf(steps, a, steps), steps)
		equals(t, "added to the steps", steps, steps, a, impl.PlusOf(steps, steps, a), steps)
	})
}

func TestP7GreaterOneIsMade(t *testing.T) {
	eachPair(func(steps, a, b int) {
		inner := impl.PlusOf(steps, impl.NotOf(steps, a), b)
		equals(t, "greater one by adding", steps, a, b, impl.PlusOf(steps, impl.NotOf(steps, inner), b), impl.GreaterOf(steps, a, b))
	})
}

func TestP7PlusInWords(t *testing.T) {
	byHand(t, 1)
	inWords(t, 1, func(steps, a, b int) int {
		sum := a
		for i := 0; i < b && sum < steps; i++ {
			sum++
		}
		return sum
	})
}

func TestP7OthersAreNotAdded(t *testing.T) {
	refusesOthers(t, 1)
}

// P8: Taken together is added up of opposites.
func TestP8OppositeOfOppositesAdded(t *testing.T) {
	eachPair(func(steps, a, b int) {
		added := impl.PlusOf(steps, impl.NotOf(steps, a), impl.NotOf(steps, b))
		equals(t, "opposite of both opposites added up", steps, a, b, impl.NotOf(steps, added), impl.TimesOf(steps, a, b))
	})
}

func TestP8FollowingIsTheOtherSide(t *testing.T) {
	eachTriple(func(steps, a, b, c int) {
		together := impl.TimesOf(steps, a, b) <= c
		if follows := a <= impl.FollowsOf(steps, b, c); together != follows {
			t.Errorf("chain of %d steps, for %d, %d and %d: at most the third one %v, but follows %v", steps, a, b, c, together, follows)
		}
	})
}

func TestP8TimesInWords(t *testing.T) {
	byHand(t, 2)
	inWords(t, 2, func(steps, a, b int) int {
		left := a
		for lacking := steps - b; lacking > 0 && left > 0; lacking-- {
			left--
		}
		return left
	})
}

func TestP8OthersAreNotTakenTogether(t *testing.T) {
	refusesOthers(t, 2)
}

// P9: The lesser one is made of signs.
func TestP9TakenTogetherWithWhatFollows(t *testing.T) {
	eachPair(func(steps, a, b int) {
		equals(t, "a taken together with what follows", steps, a, b, impl.TimesOf(steps, a, impl.FollowsOf(steps, a, b)), impl.LesserOf(steps, a, b))
	})
}

func TestP9OppositeOfTheGreaterOpposite(t *testing.T) {
	eachPair(func(steps, a, b int) {
		greater := impl.GreaterOf(steps, impl.NotOf(steps, a), impl.NotOf(steps, b))
		equals(t, "opposite of the greater opposite", steps, a, b, impl.NotOf(steps, greater), impl.LesserOf(steps, a, b))
	})
}

func TestP9LesserInWords(t *testing.T) {
	byHand(t, 3)
	inWords(t, 3, func(_, a, b int) int {
		if b < a {
			return b
		}
		return a
	})
}

func TestP9OthersHaveNoLesserOne(t *testing.T) {
	refusesOthers(t, 3)
}

// P10: The greater one is made of following.
func TestP10FollowsOfWhatFollows(t *testing.T) {
	eachPair(func(steps, a, b int) {
		equals(t, "that b follows of what follows", steps, a, b, impl.FollowsOf(steps, impl.FollowsOf(steps, a, b), b), impl.GreaterOf(steps, a, b))
	})
}

func TestP10Exchanged(t *testing.T) {
	eachPair(func(steps, a, b int) {
		equals(t, "exchanged", steps, a, b, impl.GreaterOf(steps, b, a), impl.GreaterOf(steps, a, b))
	})
}

func TestP10GreaterInWords(t *testing.T) {
	byHand(t, 4)
	inWords(t, 4, func(_, a, b int) int {
		if b > a {
			return b
		}
		return a
	})
}

func TestP10OthersHaveNoGreaterOne(t *testing.T) {
	refusesOthers(t, 4)
}

// P11: Taken together often enough only the truth is left.
func TestP11OftenEnough(t *testing.T) {
	eachValue(func(steps, a int) {
		for times := steps; times <= 9; times++ {
			want := 0
			if a == steps {
				want = steps
			}
			if got := impl.ManyTimes(steps, a, times); got != want {
				t.Errorf("ManyTimes(%d, %d, %d) is %d", steps, a, times, got)
			}
		}
	})
}

func TestP11OneTimeMore(t *testing.T) {
	eachValue(func(steps, a int) {
		for times := 0; times < 9; times++ {
			more, want := impl.ManyTimes(steps, a, times+1), impl.TimesOf(steps, impl.ManyTimes(steps, a, times), a)
			if more != want {
				t.Errorf("ManyTimes(%d, %d, %d) is %d, not %d", steps, a, times+1, more, want)
			}
		}
	})
}

func TestP11NeverAndOnce(t *testing.T) {
	eachValue(func(steps, a int) {
		if got := impl.ManyTimes(steps, a, 0); got != steps {
			t.Errorf("ManyTimes(%d, %d, 0) is %d", steps, a, got)
		}
		if got := impl.ManyTimes(steps, a, 1); got != a {
			t.Errorf("ManyTimes(%d, %d, 1) is %d", steps, a, got)
		}
	})
}

func TestP11ManyTimesByHand(t *testing.T) {
	for _, c := range []struct {
		steps, a int
		want     []int
	}{
		{1, 0, []int{1, 0, 0, 0, 0, 0, 0, 0, 0, 0}}, {1, 1, []int{1, 1, 1, 1, 1, 1, 1, 1, 1, 1}},
		{2, 1, []int{2, 1, 0, 0, 0, 0, 0, 0, 0, 0}}, {3, 2, []int{3, 2, 1, 0, 0, 0, 0, 0, 0, 0}},
		{4, 2, []int{4, 2, 0, 0, 0, 0, 0, 0, 0, 0}}, {5, 4, []int{5, 4, 3, 2, 1, 0, 0, 0, 0, 0}},
		{6, 0, []int{6, 0, 0, 0, 0, 0, 0, 0, 0, 0}}, {6, 3, []int{6, 3, 0, 0, 0, 0, 0, 0, 0, 0}},
		{6, 4, []int{6, 4, 2, 0, 0, 0, 0, 0, 0, 0}}, {6, 5, []int{6, 5, 4, 3, 2, 1, 0, 0, 0, 0}},
		{6, 6, []int{6, 6, 6, 6, 6, 6, 6, 6, 6, 6}},
	} {
		for times, want := range c.want {
			if got := impl.ManyTimes(c.steps, c.a, times); got != want {
				t.Errorf("ManyTimes(%d, %d, %d) is %d, not %d", c.steps, c.a, times, got, want)
			}
		}
	}
}

func TestP11OthersAreNotTakenManyTimes(t *testing.T) {
	refuse := func(steps, a, times int) {
		if got := impl.ManyTimes(steps, a, times); got != -1 {
			// Without a bound, the greatest number of times would be counted up to: so the first one ends the test.
			t.Fatalf("ManyTimes(%d, %d, %d) is %d", steps, a, times, got)
		}
	}
	eachNoValue(func(steps, a int) {
		for times := -2; times <= 11; times++ {
			refuse(steps, a, times)
		}
		refuse(steps, a, math.MinInt)
		refuse(steps, a, math.MaxInt)
	})
	eachValue(func(steps, a int) {
		for _, times := range badTimes {
			refuse(steps, a, times)
		}
	})
}
