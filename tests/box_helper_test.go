package tests

import (
	"fmt"
	"math"
	"slices"
	"strconv"
	"strings"
	"testing"

	"loop.example/numberparts/impl"
)

// everyBox calls f with the sides of all boxes.
func everyBox(f func(a, b int)) {
	for a := range maxSide + 1 {
		for b := range maxSide + 1 {
			f(a, b)
		}
	}
}

// isInPlainly is InBox as the document says it, of parts and of a box within the limits.
func isInPlainly(p []int, a, b int) bool {
	return len(p) <= a && every(p, func(part int) bool { return part <= b })
}

// partsIn returns all parts in a box, by their sum.
func partsIn(a, b int) [][]int {
	var list [][]int
	for _, p := range everyParts(maxSum) {
		if isInPlainly(p, a, b) {
			list = append(list, p)
		}
	}
	return list
}

// everyInBox calls f with all parts in all boxes.
func everyInBox(f func(p []int, a, b int)) {
	everyBox(func(a, b int) {
		for _, p := range partsIn(a, b) {
			f(p, a, b)
		}
	})
}

// everyOutOfBox calls f with parts in no box, numbers that are no parts, and sides of no box.
func everyOutOfBox(f func(p []int, a, b int)) {
	everyBox(func(a, b int) {
		for _, p := range everyParts(maxSum) {
			if !isInPlainly(p, a, b) {
				f(p, a, b)
			}
		}
		for _, p := range wrongNumbers {
			f(p, a, b)
		}
	})
	for _, p := range [][]int{nil, {1}, {2, 1}, {0}, {1, 2}} {
		for _, wrong := range wrongSums(maxSide) {
			f(p, wrong, wrong)
			for side := range maxSide + 1 {
				f(p, wrong, side)
				f(p, side, wrong)
			}
		}
	}
}

// plainOpposite is OppositeIn as the document says it, of parts in a box.
func plainOpposite(p []int, a, b int) []int {
	all := slices.Repeat([]int{b}, a-len(p))
	for _, part := range turned(p) {
		all = append(all, b-part)
	}
	return slices.DeleteFunc(all, func(part int) bool { return part == 0 })
}

// plainPath is PathOf as the document says it, of parts in a box.
func plainPath(p []int, a, b int) string {
	path := ""
	before := 0
	for _, part := range turned(append(slices.Clone(p), make([]int, a-len(p))...)) {
		path += strings.Repeat("e", part-before) + "n"
		before = part
	}
	return path + strings.Repeat("e", b-before)
}

// boxed is parts in a box, by their text.
type boxed struct {
	text string
	a, b int
}

// pathsBack finds the parts and the box of a path by trying all of them.
func pathsBack(t *testing.T) map[string]boxed {
	back := map[string]boxed{}
	everyInBox(func(p []int, a, b int) {
		path := plainPath(p, a, b)
		if twice, ok := back[path]; ok {
			t.Fatalf("%v and %v have the same path: %s", twice, p, path)
		}
		back[path] = boxed{plainText(p), a, b}
	})
	return back
}

// everyText calls f with all texts of some letters with at most so many bytes.
func everyText(letters string, length int, f func(s string)) {
	f("")
	if length == 0 {
		return
	}
	for i := range len(letters) {
		everyText(letters, length-1, func(s string) {
			f(letters[i:i+1] + s)
		})
	}
}

// plainMask is MaskOf as the document says it, of summands.
func plainMask(c []int) int {
	mask, sum := 0, 0
	for i, n := range c {
		sum += n
		if i < len(c)-1 {
			mask += 1 << (sum - 1)
		}
	}
	return mask
}

// sumsByMask are all summands with each sum, each at the index that is its mask.
var sumsByMask = makeSumsByMask()

func makeSumsByMask() [][][]int {
	bySum := make([][][]int, maxSum+1)
	for n := range bySum {
		all := orders(n)
		bySum[n] = make([][]int, len(all))
		for _, c := range all {
			bySum[n][plainMask(c)] = c
		}
	}
	return bySum
}

// everySums returns all summands with a sum up to n.
func everySums(n int) [][]int {
	return slices.Concat(sumsByMask[:n+1]...)
}

// someSums returns every so many of the summands with a sum, the first and the last among them.
func someSums(n int, step int) [][]int {
	list := sumsByMask[n]
	some := [][]int{list[len(list)-1]}
	for i := 0; i < len(list); i += step {
		some = append(some, list[i])
	}
	return some
}

// areSumsPlainly is ValidSums as the document says it, for any numbers: more than MaxSum of them are never added up, nor numbers beyond it.
func areSumsPlainly(c []int) bool {
	return len(c) <= maxSum && every(c, func(n int) bool { return n >= 1 && n <= maxSum }) && total(c) <= maxSum
}

// wrongSummands are no summands: numbers that are no parts even in order, and those that are wrong behind or between others.
var wrongSummands = makeWrongSummands()

func makeWrongSummands() [][]int {
	wrong := slices.Clone(wrongNumbers)
	for _, p := range wrongNumbers {
		wrong = append(wrong, turned(p), slices.Concat([]int{1}, p, []int{1}))
	}
	wrong = append(wrong, []int{1, 16}, []int{8, 1, 8}, []int{1, 0, 1}, []int{5, -1, 5}, []int{16, -16, 16}, []int{1, math.MaxInt, math.MinInt, 1})
	return slices.DeleteFunc(wrong, areSumsPlainly)
}

// withWrongSums calls f with wrong numbers as one of two arguments or as both.
func withWrongSums(f func(c, d []int)) {
	good := slices.Concat(everySums(3), someSums(maxSum, 9999), [][]int{nil})
	for _, wrong := range wrongSummands {
		f(wrong, wrong)
		for _, c := range good {
			f(c, wrong)
			f(wrong, c)
		}
	}
}

// endsOf returns the sums of the first summands, of each number of them, all included.
func endsOf(c []int) []int {
	var ends []int
	for i := range c {
		ends = append(ends, total(c[:i+1]))
	}
	return ends
}

// plainOppositeSums is OppositeSums as the document says it, of summands.
func plainOppositeSums(c []int) []int {
	var list []int
	ends := endsOf(c)
	before := 0
	for end := 1; end <= total(c); end++ {
		if end == total(c) || !slices.Contains(ends, end) {
			list = append(list, end-before)
			before = end
		}
	}
	return list
}

// plainLink is LinkSums as the document says it, of summands that are together not too many.
func plainLink(c, d []int, near bool) []int {
	if !near || len(c) == 0 || len(d) == 0 {
		return slices.Concat(c, d)
	}
	last := len(c) - 1
	return slices.Concat(c[:last], []int{c[last] + d[0]}, d[1:])
}

// isFinerPlainly is FinerSums as the document says it, of summands: it adds up numbers of c until they are one of d.
func isFinerPlainly(c, d []int) bool {
	if total(c) != total(d) {
		return false
	}
	for _, sum := range d {
		for sum > 0 {
			sum -= c[0]
			c = c[1:]
		}
		if sum < 0 {
			return false
		}
	}
	return true
}

// everyTwoSums calls f with all two summands that are together at most so much.
func everyTwoSums(limit int, f func(c, d []int)) {
	for n := range limit + 1 {
		for _, c := range sumsByMask[n] {
			for _, d := range everySums(limit - n) {
				f(c, d)
			}
		}
	}
}

// someTwoSums calls f with some two summands with sums of their own, and with all that are small.
func someTwoSums(n, m int, f func(c, d []int)) {
	for _, c := range someSums(n, 1+len(sumsByMask[n])/40) {
		for _, d := range someSums(m, 1+len(sumsByMask[m])/40) {
			f(c, d)
		}
	}
}

// numbersOf returns the numbers of a text with a + between two of them.
func numbersOf(t *testing.T, s string) []int {
	t.Helper()
	var list []int
	for _, word := range strings.FieldsFunc(s, func(r rune) bool { return r == '+' }) {
		n, err := strconv.Atoi(word)
		if err != nil {
			t.Fatal(err)
		}
		list = append(list, n)
	}
	return list
}

// wantSame fails at once if two lists differ, and writes no text before.
func wantSame(t *testing.T, what string, of []int, got []int, want []int) {
	t.Helper()
	if !slices.Equal(got, want) {
		t.Fatalf("%s of %v = %v, want %v", what, of, got, want)
	}
}

// link returns linked summands that there have to be.
func link(t *testing.T, c, d []int, near bool) []int {
	t.Helper()
	linked, ok := impl.LinkSums(c, d, near)
	if !ok {
		t.Fatalf("LinkSums(%v, %v, %v): false", c, d, near)
	}
	return linked
}

// opposite returns what parts leave of a box in which they lie.
func opposite(t *testing.T, p []int, a, b int) []int {
	t.Helper()
	q, ok := impl.OppositeIn(p, a, b)
	return must(t, fmt.Sprintf("OppositeIn(%v, %d, %d)", p, a, b), q, ok)
}
