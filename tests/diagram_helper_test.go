package tests

import (
	"math"
	"slices"
	"strconv"
	"strings"
	"testing"

	"loop.example/numberparts/impl"
)

// The greatest sums are written out here, so that a changed constant of the program is found.
const (
	maxSum        = 16
	maxList       = 12
	maxCount      = 40
	maxPentagonal = 100
	maxSide       = 4
	maxSums       = 8
	maxMarked     = 8
	maxPile       = 6
	maxDesk       = 20
)

// manyParts tells how many parts have each sum from 0 to 40.
var manyParts = []int{
	1, 1, 2, 3, 5, 7, 11, 15, 22, 30, 42, 56, 77, 101, 135, 176, 231, 297, 385, 490, 627,
	792, 1002, 1255, 1575, 1958, 2436, 3010, 3718, 4565, 5604, 6842, 8349, 10143, 12310, 14883, 17977, 21637, 26015, 31185, 37338,
}

// wrongNumbers are no parts. Some of them have a sum within the limit once it has left the range of int.
var wrongNumbers = [][]int{
	{0},
	{-1},
	{0, 0},
	{3, 0},
	{3, 0, 1},
	{3, 2, -1},
	{16, 0},
	{16, -1, 1},
	{5, -5},
	{-3, -2},
	{1, 2},
	{3, 1, 2},
	{4, 4, 5},
	{17},
	{16, 1},
	{9, 8},
	{8, 8, 1},
	slices.Repeat([]int{1}, 17),
	slices.Repeat([]int{1}, 100000),
	{math.MaxInt},
	{math.MinInt},
	{1, math.MinInt},
	{1, math.MaxInt},
	{math.MaxInt, 1},
	{math.MaxInt, math.MaxInt, 2},
	{math.MaxInt, math.MaxInt, 3},
	{math.MaxInt, math.MinInt, 2},
	{math.MinInt, math.MinInt},
	slices.Repeat([]int{1 << 62}, 4),
	append(slices.Repeat([]int{1 << 62}, 4), 5),
	slices.Repeat([]int{1 << 60}, 16),
	{1 << 32},
	{1<<32 + 1},
	{256},
	{257, 256},
}

// wrongSums are numbers below 0, and beyond a limit.
func wrongSums(limit int) []int {
	return []int{-1, -2, -limit, limit + 1, limit + 2, 1 << 32, 1 << 62, math.MaxInt, math.MinInt, math.MinInt + 1}
}

// comesAhead orders lists of one sum by the first place where they differ, the greater number first.
func comesAhead(a, b []int) int {
	return slices.Compare(b, a)
}

// orders returns all lists of numbers from 1 up with a sum.
func orders(n int) [][]int {
	if n == 0 {
		return [][]int{{}}
	}
	var all [][]int
	for first := 1; first <= n; first++ {
		for _, rest := range orders(n - first) {
			all = append(all, append([]int{first}, rest...))
		}
	}
	return all
}

func isFalling(p []int) bool {
	for i := 1; i < len(p); i++ {
		if p[i] > p[i-1] {
			return false
		}
	}
	return true
}

var partsBySum = makePartsBySum()

// makePartsBySum picks the parts out of the lists in any order, which knows nothing of how the program lists them.
func makePartsBySum() [][][]int {
	bySum := make([][][]int, maxSum+1)
	for n := range bySum {
		for _, list := range orders(n) {
			if isFalling(list) {
				bySum[n] = append(bySum[n], list)
			}
		}
		slices.SortFunc(bySum[n], comesAhead)
	}
	return bySum
}

// everyParts returns all parts with a sum up to n.
func everyParts(n int) [][]int {
	var all [][]int
	for sum := 0; sum <= n; sum++ {
		all = append(all, partsBySum[sum]...)
	}
	return all
}

// arePartsPlainly is what the document says of parts, for numbers that can be added up.
func arePartsPlainly(p []int) bool {
	return isFalling(p) && (len(p) == 0 || p[len(p)-1] >= 1) && total(p) <= maxSum
}

func total(list []int) int {
	sum := 0
	for _, n := range list {
		sum += n
	}
	return sum
}

func product(list []int) int {
	p := 1
	for _, n := range list {
		p *= n
	}
	return p
}

func atLeast(p []int, k int) int {
	count := 0
	for _, n := range p {
		if n >= k {
			count++
		}
	}
	return count
}

func greatest(p []int) int {
	if len(p) == 0 {
		return 0
	}
	return slices.Max(p)
}

// plainConjugate is ConjugateOf as the document says it.
func plainConjugate(p []int) []int {
	turned := make([]int, greatest(p))
	for k := range turned {
		turned[k] = atLeast(p, k+1)
	}
	return turned
}

// plainDurfee is DurfeeOf as the document says it.
func plainDurfee(p []int) int {
	side := 0
	for k := 1; k <= maxSum; k++ {
		if atLeast(p, k) >= k {
			side = k
		}
	}
	return side
}

// plainFrobenius is FrobeniusOf as the document says it.
func plainFrobenius(p []int) ([]int, []int) {
	var arms, legs []int
	for i := range plainDurfee(p) {
		arms = append(arms, p[i]-(i+1))
		legs = append(legs, plainConjugate(p)[i]-(i+1))
	}
	return arms, legs
}

// plainText is PartsText as the document says it.
func plainText(p []int) string {
	words := make([]string, len(p))
	for i, n := range p {
		words[i] = strconv.Itoa(n)
	}
	return strings.Join(words, "+")
}

// textsOf returns the text of each of some parts.
func textsOf(lists [][]int) []string {
	texts := make([]string, len(lists))
	for i, p := range lists {
		texts[i] = plainText(p)
	}
	return texts
}

// must returns the parts of a call that has to succeed.
func must(t *testing.T, what string, p []int, ok bool) []int {
	t.Helper()
	if !ok {
		t.Fatalf("%s: false", what)
	}
	return p
}

// wantParts checks a result of parts and true, or of none and false.
func wantParts(t *testing.T, what string, got []int, ok bool, want []int, wantOK bool) {
	t.Helper()
	if ok != wantOK || !slices.Equal(got, want) {
		t.Errorf("%s = %v, %v, want %v, %v", what, got, ok, want, wantOK)
	}
}

// wantList checks a result of numbers.
func wantList(t *testing.T, what string, got []int, want []int) {
	t.Helper()
	if !slices.Equal(got, want) {
		t.Errorf("%s = %v, want %v", what, got, want)
	}
}

// wantNumber checks a result of one number.
func wantNumber(t *testing.T, what string, got int, want int) {
	t.Helper()
	if got != want {
		t.Errorf("%s = %d, want %d", what, got, want)
	}
}

func sameRows(a, b [][]int) bool {
	return slices.EqualFunc(a, b, slices.Equal[[]int])
}

func TestLimits(t *testing.T) {
	wantNumber(t, "MaxSum", impl.MaxSum, maxSum)
	wantNumber(t, "MaxList", impl.MaxList, maxList)
	wantNumber(t, "MaxCount", impl.MaxCount, maxCount)
	wantNumber(t, "MaxPentagonal", impl.MaxPentagonal, maxPentagonal)
	wantNumber(t, "MaxSide", impl.MaxSide, maxSide)
	wantNumber(t, "MaxSums", impl.MaxSums, maxSums)
	wantNumber(t, "MaxMarked", impl.MaxMarked, maxMarked)
	wantNumber(t, "MaxPile", impl.MaxPile, maxPile)
	wantNumber(t, "MaxDesk", impl.MaxDesk, maxDesk)
}
