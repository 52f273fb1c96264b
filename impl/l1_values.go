package impl

import "strconv"

// MaxSteps is the maximum number of steps of a chain.
const MaxSteps = 6

// fraction is a part of a whole. In lowest terms, the same fraction is always the same key of a map.
type fraction struct {
	part  int
	whole int
}

// reduced returns a part and a whole, which is above 0, in lowest terms; the part is not negative.
func reduced[N ~int | ~uint](part, whole N) (N, N) {
	divisor, rest := whole, part
	for rest != 0 {
		divisor, rest = rest, divisor%rest
	}
	return part / divisor, whole / divisor
}

// stepsOk reports whether there is a chain of so many steps.
func stepsOk(steps int) bool {
	return steps >= 1 && steps <= MaxSteps
}

// fractionOf returns the fraction, in lowest terms, that a value of a chain (ValueOk) is.
func fractionOf(steps int, v int) fraction {
	part, whole := reduced(v, steps)
	return fraction{part: part, whole: whole}
}

// valuesByFraction returns all values of a chain (stepsOk) by the fractions that they are.
func valuesByFraction(steps int) map[fraction]int {
	values := make(map[fraction]int, steps+1)
	for v := range steps + 1 {
		values[fractionOf(steps, v)] = v
	}
	return values
}

// ValueOk reports whether a chain of so many steps, in 1..MaxSteps, has a value: whether it is in 0..steps.
func ValueOk(steps int, v int) bool {
	return stepsOk(steps) && v >= 0 && v <= steps
}

// SameOk reports whether a value of a chain and a value of another one (ValueOk) are the same fraction of the truth: whether each value, multiplied by the other chain's steps, is as much; false for others.
func SameOk(steps int, v int, other int, w int) bool {
	return ValueOk(steps, v) && ValueOk(other, w) && v*other == w*steps
}

// LowestOf returns the steps of the shortest chain that has a value of a chain (ValueOk), and the value there, as the same fraction (SameOk), and true; -1, -1 and false for others.
func LowestOf(steps int, v int) (int, int, bool) {
	if !ValueOk(steps, v) {
		return -1, -1, false
	}
	lowest := fractionOf(steps, v)
	return lowest.whole, lowest.part, true
}

// MovedTo returns the value of another chain, told by its steps, that is the same fraction (SameOk) as a value of a chain (ValueOk), and true; -1 and false if there is none, and for others.
func MovedTo(steps int, v int, other int) (int, bool) {
	if !ValueOk(steps, v) || !stepsOk(other) {
		return -1, false
	}
	w, ok := valuesByFraction(other)[fractionOf(steps, v)]
	if !ok {
		return -1, false
	}
	return w, true
}

// ValueText returns the text of a value of a chain (ValueOk): its value in the shortest chain, a slash, and the steps of that (LowestOf), but 0 for false and 1 for true; "" for others.
func ValueText(steps int, v int) string {
	whole, part, ok := LowestOf(steps, v)
	if !ok {
		return ""
	}
	if whole == 1 {
		return strconv.Itoa(part)
	}
	return strconv.Itoa(part) + "/" + strconv.Itoa(whole)
}

// ReadValue returns the value of a chain, told by its steps, whose ValueText a text is, and true; -1 and false if there is none.
func ReadValue(steps int, s string) (int, bool) {
	if !stepsOk(steps) {
		return -1, false
	}
	for v := range steps + 1 {
		if ValueText(steps, v) == s {
			return v, true
		}
	}
	return -1, false
}
