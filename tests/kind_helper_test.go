package tests

import (
	"math"
	"slices"
)

// kindNames are all names of kinds.
var kindNames = []string{"odd", "distinct", "self", "distinctodd", "notthree", "twice", "gap", "five", "gapone", "fivetwo", "schur", "six"}

// wrongNames are no names of kinds.
var wrongNames = []string{
	"", " ", "even", "Odd", "ODD", "od", "odds", "odd ", " odd", "odd\x00", "\x00odd", "odd distinct", "odd,distinct",
	"distinc", "distinct odd", "odddistinct", "distinctOdd", "selfself", "Self", "not three", "notThree", "three", "two", "one",
	"gap one", "gap1", "gaptwo", "gapfive", "fiveone", "five two", "fivethree", "Schur", "schür", "sixth", "seven", "0", "\xff",
}

// wrongSets are not ascending, or have a number beyond 1..40. Some of them have their only wrong number behind many others.
var wrongSets = [][]int{
	{0}, {-1}, {-5}, {41}, {42}, {math.MaxInt}, {math.MinInt}, {1 << 32}, {1<<32 + 1}, {257},
	{0, 1}, {-1, 1}, {1, 41}, {40, 41}, {1, math.MaxInt}, {math.MinInt, 1}, {math.MinInt, math.MaxInt},
	{1, 1}, {2, 2}, {40, 40}, {2, 1}, {40, 1}, {3, 5, 4}, {1, 2, 2}, {1, 2, 1}, {5, 4, 6}, {1, 3, 3, 4}, {1, 0}, {1, 2, 0}, {3, -1},
	slices.Repeat([]int{1}, 1000),
	upTo(41, 1),
	append(upTo(40, 1), 40),
	append(upTo(40, 1), 1),
	append([]int{1}, upTo(40, 1)...),
}

// upTo returns every so many numbers from 1 to n.
func upTo(n int, step int) []int {
	var list []int
	for k := 1; k <= n; k += step {
		list = append(list, k)
	}
	return list
}

// leaving returns the numbers from 1 to n that leave one of some remainders.
func leaving(n int, divisor int, remainders ...int) []int {
	var list []int
	for k := 1; k <= n; k++ {
		if slices.Contains(remainders, k%divisor) {
			list = append(list, k)
		}
	}
	return list
}

// every reports whether something holds for all of some parts.
func every(p []int, holds func(part int) bool) bool {
	for _, part := range p {
		if !holds(part) {
			return false
		}
	}
	return true
}

// everyNext reports whether something holds for all of some parts that have a next one, and it.
func everyNext(p []int, holds func(part int, next int) bool) bool {
	for i := 1; i < len(p); i++ {
		if !holds(p[i-1], p[i]) {
			return false
		}
	}
	return true
}

func times(p []int, part int) int {
	return atLeast(p, part) - atLeast(p, part+1)
}

// isKindPlainly is IsKind as the document says it, of parts.
func isKindPlainly(name string, p []int) bool {
	switch name {
	case "odd":
		return every(p, func(part int) bool { return part%2 == 1 })
	case "distinct":
		return every(p, func(part int) bool { return times(p, part) == 1 })
	case "self":
		return slices.Equal(plainConjugate(p), p)
	case "distinctodd":
		return isKindPlainly("odd", p) && isKindPlainly("distinct", p)
	case "notthree":
		return every(p, func(part int) bool { return part%3 != 0 })
	case "twice":
		return every(p, func(part int) bool { return times(p, part) <= 2 })
	case "gap":
		return everyNext(p, func(part int, next int) bool { return part >= next+2 })
	case "five":
		return every(p, func(part int) bool { return part%5 == 1 || part%5 == 4 })
	case "gapone":
		return isKindPlainly("gap", p) && !slices.Contains(p, 1)
	case "fivetwo":
		return every(p, func(part int) bool { return part%5 == 2 || part%5 == 3 })
	case "schur":
		return everyNext(p, func(part int, next int) bool { return part >= next+3 && (part%3 != 0 || part > next+3) })
	case "six":
		return every(p, func(part int) bool { return part%6 == 1 || part%6 == 5 })
	}
	return false
}

// plainKind returns those of all parts with a sum that are of a kind.
func plainKind(name string, n int) [][]int {
	var list [][]int
	for _, p := range partsBySum[n] {
		if isKindPlainly(name, p) {
			list = append(list, p)
		}
	}
	return list
}

// census counts the parts with one sum, which are listed one by one.
type census struct {
	byLength [maxCount + 1]int
	signed   int
	self     int
}

var censusBySum = makeCensusBySum()

func makeCensusBySum() []census {
	bySum := make([]census, maxCount+1)
	for n := range bySum {
		visitParts(n, n, nil, bySum[n].add)
	}
	return bySum
}

// visitParts calls f with all that may stand behind the parts p, none of it greater than most, with the sum left.
func visitParts(left int, most int, p []int, f func(p []int)) {
	if left == 0 {
		f(p)
	}
	for part := 1; part <= min(left, most); part++ {
		visitParts(left-part, part, append(p, part), f)
	}
}

func (c *census) add(p []int) {
	c.byLength[len(p)]++
	if everyNext(p, func(part int, next int) bool { return part > next }) {
		c.signed += 1 - len(p)%2*2
	}
	if greatest(p) == len(p) && slices.Equal(plainConjugate(p), p) {
		c.self++
	}
}

// atMost returns how many parts there are of at most k.
func (c *census) atMost(k int) int {
	return total(c.byLength[:k+1])
}

// plainCountOver counts the parts of a set with a sum, each number up to so many times, by trying them all.
func plainCountOver(set []int, n int, most int) int {
	if len(set) == 0 {
		if n == 0 {
			return 1
		}
		return 0
	}
	count := 0
	for often := 0; often <= most && often*set[0] <= n; often++ {
		count += plainCountOver(set[1:], n-often*set[0], most)
	}
	return count
}

// smallSets returns all sets of numbers up to n.
func smallSets(n int) [][]int {
	sets := [][]int{nil}
	for k := 1; k <= n; k++ {
		for _, set := range slices.Clone(sets) {
			sets = append(sets, append(slices.Clone(set), k))
		}
	}
	return sets
}

// largeSets have numbers up to the limit.
var largeSets = [][]int{
	nil, {1}, {2}, {39}, {40}, {1, 40}, {39, 40}, {1, 39, 40}, {20, 40}, {13, 27}, {13, 14, 26, 27}, {1, 5, 10, 25}, {2, 4, 6, 8, 40},
	upTo(40, 1), upTo(40, 2), upTo(40, 3), upTo(39, 1), upTo(20, 1), upTo(40, 1)[1:], upTo(40, 1)[19:],
	leaving(40, 2, 0), leaving(40, 5, 1, 4), leaving(40, 5, 2, 3), leaving(40, 3, 1, 2), leaving(40, 6, 1, 5), leaving(40, 7, 0, 3, 5),
}
