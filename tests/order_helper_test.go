package tests

import (
	"fmt"
	"slices"
	"testing"

	"loop.example/numberparts/impl"
)

// together returns the sum of the first k of some parts, or of all if there are fewer.
func together(p []int, k int) int {
	return total(p[:min(k, len(p))])
}

// dominatesPlainly is Dominates as the document says it, of parts.
func dominatesPlainly(p, q []int) bool {
	if total(p) != total(q) {
		return false
	}
	for k := 1; k <= maxSum; k++ {
		if together(p, k) < together(q, k) {
			return false
		}
	}
	return true
}

// below tells of the places of two parts of one sum whether those at the first one dominate those at the second one.
type below [][]bool

var belowBySum = makeBelowBySum()

func makeBelowBySum() []below {
	bySum := make([]below, maxSum+1)
	for n, list := range partsBySum {
		bySum[n] = make(below, len(list))
		for i, p := range list {
			for _, q := range list {
				bySum[n][i] = append(bySum[n][i], dominatesPlainly(p, q))
			}
		}
	}
	return bySum
}

// greatestBelow returns the place that two places dominate and that dominates all others that both dominate, and how many such places there are.
func (b below) greatestBelow(i, k int) (int, int) {
	var both []int
	for l := range b {
		if b[i][l] && b[k][l] {
			both = append(both, l)
		}
	}
	place, found := -1, 0
	for _, l := range both {
		if every(both, func(other int) bool { return b[l][other] }) {
			place = l
			found++
		}
	}
	return place, found
}

// turned tells the same of what dominates the other way round.
func (b below) turned() below {
	turned := make(below, len(b))
	for i := range b {
		for k := range b {
			turned[i] = append(turned[i], b[k][i])
		}
	}
	return turned
}

// covers reports whether one place dominates another one, with none between.
func (b below) covers(i, k int) bool {
	if i == k || !b[i][k] {
		return false
	}
	for l := range b {
		if l != i && l != k && b[i][l] && b[l][k] {
			return false
		}
	}
	return true
}

// coversPlainly are the places right below each place, by sum.
var coversPlainly = makeCoversPlainly()

func makeCoversPlainly() [][][]int {
	bySum := make([][][]int, maxList+1)
	for n := range bySum {
		b := belowBySum[n]
		bySum[n] = make([][]int, len(b))
		for i := range b {
			for k := range b {
				if b.covers(i, k) {
					bySum[n][i] = append(bySum[n][i], k)
				}
			}
		}
	}
	return bySum
}

// chainPlainly is ChainDown as the document says it, from one place to another one that it dominates.
func chainPlainly(n, i, k int) [][]int {
	chain := [][]int{partsBySum[n][i]}
	for i != k {
		covers := coversPlainly[n][i]
		i = covers[slices.IndexFunc(covers, func(l int) bool { return belowBySum[n][l][k] })]
		chain = append(chain, partsBySum[n][i])
	}
	return chain
}

// coarser tells by the text of parts all texts of parts that come of these by sums.
type coarser map[string]map[string]bool

// add finds them by adding up two parts, and again two of what has come of this.
func (c coarser) add(p []int) map[string]bool {
	if known, ok := c[plainText(p)]; ok {
		return known
	}
	found := map[string]bool{plainText(p): true}
	for k := range p {
		for i := range k {
			rest := slices.Concat(p[:i], p[i+1:k], p[k+1:])
			for s := range c.add(sorted(append(rest, p[i]+p[k]))) {
				found[s] = true
			}
		}
	}
	c[plainText(p)] = found
	return found
}

var coarserParts = makeCoarserParts()

func makeCoarserParts() coarser {
	c := coarser{}
	for _, p := range everyParts(maxSum) {
		c.add(p)
	}
	return c
}

func plainRank(p []int) int {
	return greatest(p) - len(p)
}

// plainCrank is CrankOf as the document says it, of parts.
func plainCrank(p []int) int {
	ones := times(p, 1)
	if ones == 0 {
		return greatest(p)
	}
	return atLeast(p, ones+1) - ones
}

// plainSpread counts for each remainder the parts whose measure differs from it by a multiple.
func plainSpread(n, m int, measure func(p []int) int) []int {
	var spread []int
	for r := range m {
		many := 0
		for _, p := range partsBySum[n] {
			if (measure(p)-r)%m == 0 {
				many++
			}
		}
		spread = append(spread, many)
	}
	return spread
}

// hasInsidePlainly is HasInside as the document says it, of parts.
func hasInsidePlainly(p, q []int) bool {
	if len(q) > len(p) {
		return false
	}
	for i := range q {
		if q[i] > p[i] {
			return false
		}
	}
	return true
}

// plainCut is CutInside as the document says it, of parts, found place by place.
func plainCut(p, q []int) ([]int, []int, bool) {
	if len(p) < len(q) {
		p, q = q, p
	}
	var both []int
	either := slices.Clone(p)
	for i := range q {
		both = append(both, min(p[i], q[i]))
		either[i] = max(p[i], q[i])
	}
	if total(either) > maxSum {
		return nil, nil, false
	}
	return both, either, true
}

// everyTwo calls f with all two parts with one sum, with the sum and with both places.
func everyTwo(limit int, f func(n, i, k int, p, q []int)) {
	for n := range limit + 1 {
		for i, p := range partsBySum[n] {
			for k, q := range partsBySum[n] {
				f(n, i, k, p, q)
			}
		}
	}
}

// wantRows checks a result of several parts.
func wantRows(t *testing.T, what string, got [][]int, want [][]int) {
	t.Helper()
	if !sameRows(got, want) {
		t.Errorf("%s = %v, want %v", what, got, want)
	}
}

// wantTruth checks a result of true or false.
func wantTruth(t *testing.T, what string, got bool, want bool) {
	t.Helper()
	if got != want {
		t.Errorf("%s = %v", what, got)
	}
}

// brief returns the text of numbers, cut off where there are too many.
func brief(p []int) string {
	return fmt.Sprintf("%.100v", fmt.Sprint(p))
}

// withWrong calls f with wrong numbers as one of two arguments or as both.
func withWrong(f func(p, q []int)) {
	good := slices.Concat(everyParts(4), partsBySum[maxSum][:3], [][]int{nil})
	for _, wrong := range wrongNumbers {
		f(wrong, wrong)
		for _, p := range good {
			f(p, wrong)
			f(wrong, p)
		}
	}
}

// withTwoSums calls f with two parts of different sums, some of them at the limit.
func withTwoSums(f func(p, q []int)) {
	some := everyParts(7)
	for _, n := range []int{maxList, maxList + 1, maxSum - 1, maxSum} {
		list := partsBySum[n]
		some = slices.Concat(some, list[:12], list[len(list)-12:])
	}
	for _, p := range some {
		for _, q := range some {
			if total(p) != total(q) {
				f(p, q)
			}
		}
	}
}

// placesOf returns the parts at some places.
func placesOf(n int, places []int) [][]int {
	var list [][]int
	for _, i := range places {
		list = append(list, partsBySum[n][i])
	}
	return list
}

// meet and join return what two parts with one sum have.
func meet(t *testing.T, p, q []int) []int {
	t.Helper()
	m, ok := impl.MeetParts(p, q)
	return must(t, fmt.Sprintf("MeetParts(%v, %v)", p, q), m, ok)
}

func join(t *testing.T, p, q []int) []int {
	t.Helper()
	j, ok := impl.JoinParts(p, q)
	return must(t, fmt.Sprintf("JoinParts(%v, %v)", p, q), j, ok)
}
