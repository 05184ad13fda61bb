package tests

import (
	"fmt"
	"slices"
	"testing"

	"loop.example/numberparts/impl"
)

// wrongBundles are numbers of equal parts that are never made one.
var wrongBundles = append(wrongSums(maxSum), 0, 1)

// sorted returns numbers with the greatest one first.
func sorted(list []int) []int {
	list = slices.Sorted(slices.Values(list))
	slices.Reverse(list)
	return list
}

// plainMerge is MergeEqual as the document says it, of parts and a number within the limits: it makes one step after the other.
func plainMerge(p []int, m int) ([]int, bool) {
	if !every(p, func(part int) bool { return part%m != 0 }) {
		return nil, false
	}
	for {
		i := slices.IndexFunc(p, func(part int) bool { return times(p, part) >= m })
		if i < 0 {
			return p, true
		}
		p = sorted(slices.Concat(p[:i], p[i+m:], []int{p[i] * m}))
	}
}

// plainSplit is SplitEqual as the document says it, of parts and a number within the limits: it makes one step after the other.
func plainSplit(p []int, m int) ([]int, bool) {
	if !every(p, func(part int) bool { return times(p, part) < m }) {
		return nil, false
	}
	for {
		i := slices.IndexFunc(p, func(part int) bool { return part%m == 0 })
		if i < 0 {
			return p, true
		}
		p = sorted(slices.Concat(p[:i], p[i+1:], slices.Repeat([]int{p[i] / m}, m)))
	}
}

// plainHooksToOdd is HooksToOdd as the document says it, of parts of the kind self.
func plainHooksToOdd(p []int) []int {
	var hooks []int
	for i := range plainDurfee(p) {
		hooks = append(hooks, 2*p[i]-(2*i+1))
	}
	return hooks
}

// plainSlope returns how many of the first parts fall by 1 each.
func plainSlope(p []int) int {
	slope := 0
	for i, part := range p {
		if part == p[0]-i && slope == i {
			slope++
		}
	}
	return slope
}

// plainFranklin is FranklinMap as the document says it, of parts.
func plainFranklin(p []int) ([]int, bool) {
	if len(p) == 0 || !isKindPlainly("distinct", p) {
		return nil, false
	}
	q := slices.Clone(p)
	s, t, all := p[len(p)-1], plainSlope(p), len(p)
	if s <= t {
		if s == all && t == all {
			return nil, false
		}
		q = q[:all-1]
		for i := range s {
			q[i]++
		}
		return q, true
	}
	if t == all && s == t+1 {
		return nil, false
	}
	for i := range t {
		q[i]--
	}
	return append(q, t), true
}

// plainStair is StairCut as the document says it, of parts of the kind distinct.
func plainStair(p []int) []int {
	var left []int
	for i, part := range p {
		if place := len(p) - i; part != place {
			left = append(left, part-place)
		}
	}
	return left
}

// plainSquare is SquareCut as the document says it, of parts.
func plainSquare(p []int) (int, []int, []int) {
	side := plainDurfee(p)
	var right []int
	for _, part := range p[:side] {
		if part != side {
			right = append(right, part-side)
		}
	}
	return side, right, p[side:]
}

// wayBack tells by the text of what is cut off some parts which parts these are.
type wayBack map[string][]int

func (w wayBack) add(t *testing.T, cut string, p []int) {
	t.Helper()
	if _, twice := w[cut]; twice {
		t.Fatalf("%v and %v are cut the same: %s", w[cut], p, cut)
	}
	w[cut] = p
}

// find returns the parts that are cut so, and whether there are any.
func (w wayBack) find(cut string) ([]int, bool) {
	p, ok := w[cut]
	return p, ok
}

func stairText(left []int, steps int) string {
	return fmt.Sprint(plainText(left), " on ", steps)
}

func squareText(side int, right []int, below []int) string {
	return fmt.Sprint(side, ": ", plainText(right), " / ", plainText(below))
}

// stairsBack and squaresBack find the parts by trying all of them.
func stairsBack(t *testing.T) wayBack {
	back := wayBack{}
	for _, p := range everyParts(maxSum) {
		if isKindPlainly("distinct", p) {
			back.add(t, stairText(plainStair(p), len(p)), p)
		}
	}
	return back
}

func squaresBack(t *testing.T) wayBack {
	back := wayBack{}
	for _, p := range everyParts(maxSum) {
		side, right, below := plainSquare(p)
		back.add(t, squareText(side, right, below), p)
	}
	return back
}

// parse returns the parts of a text that is right.
func parse(t *testing.T, s string) []int {
	t.Helper()
	p, ok := impl.ParseParts(s)
	return must(t, fmt.Sprintf("ParseParts(%q)", s), p, ok)
}

// wantTexts checks a way of parts by the texts of what it leads to, where - is none.
func wantTexts(t *testing.T, what string, way func(p []int) ([]int, bool), texts [][2]string) {
	t.Helper()
	for _, pair := range texts {
		got, ok := way(parse(t, pair[0]))
		if pair[1] == "-" {
			wantParts(t, fmt.Sprintf("%s of %q", what, pair[0]), got, ok, nil, false)
			continue
		}
		wantParts(t, fmt.Sprintf("%s of %q", what, pair[0]), got, ok, parse(t, pair[1]), true)
	}
}

// wantNoParts checks that a way leads wrong numbers to none.
func wantNoParts(t *testing.T, what string, way func(p []int) ([]int, bool)) {
	t.Helper()
	for _, p := range wrongNumbers {
		got, ok := way(p)
		wantParts(t, fmt.Sprintf("%s of %.100v", what, fmt.Sprint(p)), got, ok, nil, false)
	}
}

// wantWay checks a way of all parts and of wrong numbers.
func wantWay(t *testing.T, what string, way func(p []int) ([]int, bool), plain func(p []int) ([]int, bool)) {
	t.Helper()
	for _, p := range everyParts(maxSum) {
		got, ok := way(p)
		want, wantOK := plain(p)
		wantParts(t, fmt.Sprintf("%s of %v", what, p), got, ok, want, wantOK)
	}
	wantNoParts(t, what, way)
}
