package tests

import (
	"slices"
	"testing"

	"loop.example/numberparts/impl"
)

var orderCalls = []call{
	{"Dominates", func(in inputs) [][]int { return [][]int{truth(impl.Dominates(in.p, in.q))} }},
	{"MeetParts", func(in inputs) [][]int { return answer(impl.MeetParts(in.p, in.q)) }},
	{"JoinParts", func(in inputs) [][]int { return answer(impl.JoinParts(in.p, in.q)) }},
	{"CoversOf", func(in inputs) [][]int { return impl.CoversOf(in.p) }},
	{"Refines", func(in inputs) [][]int { return [][]int{truth(impl.Refines(in.p, in.q))} }},
	{"RankOf", func(in inputs) [][]int { return number(impl.RankOf(in.p)) }},
	{"CrankOf", func(in inputs) [][]int { return number(impl.CrankOf(in.p)) }},
	{"RankSpread", func(in inputs) [][]int { return [][]int{impl.RankSpread(in.n, in.k)} }},
	{"CrankSpread", func(in inputs) [][]int { return [][]int{impl.CrankSpread(in.n, in.k)} }},
	{"HasInside", func(in inputs) [][]int { return [][]int{truth(impl.HasInside(in.p, in.q))} }},
	{"CutInside", func(in inputs) [][]int {
		both, either, ok := impl.CutInside(in.p, in.q)
		return [][]int{both, either, truth(ok)}
	}},
	{"CoversUp", func(in inputs) [][]int { return impl.CoversUp(in.p) }},
	{"ChainDown", func(in inputs) [][]int {
		chain, ok := impl.ChainDown(in.p, in.q)
		return append(chain, truth(ok))
	}},
}

func TestMemoryOfOrders(t *testing.T) {
	lists := slices.Concat(everyParts(8), partsBySum[maxSum][:20], wrongNumbers, [][]int{nil, {3, 0}, {2, 1, 0}, {1, 0}})
	for i, p := range lists {
		lowest := slices.Repeat([]int{1}, max(0, impl.SumOf(p)))
		for j, q := range [][]int{nil, {1}, {2, 1}, p, lowest, lists[(i+1)%len(lists)], lists[(i*7+3)%len(lists)]} {
			for _, c := range orderCalls {
				wantOwnMemory(t, c, inputs{p: p, q: q, n: i%(maxList+3) - 1, k: (i+j)%(maxSum+3) - 1})
				wantOwnMemory(t, c, inputs{p: q, q: p, n: i%(maxList+3) - 1, k: j})
			}
		}
	}
}

func TestMemoryOfOrdersOfTwiceTheSameParts(t *testing.T) {
	for _, c := range orderCalls {
		for _, p := range slices.Concat(everyParts(maxList), partsBySum[maxSum]) {
			wantOwnMemoryOfTwice(t, c, inputs{p: p, n: len(p), k: len(p)})
		}
	}
}

func TestMemoryOfSpreads(t *testing.T) {
	for n := -1; n <= maxList+1; n++ {
		for k := -1; k <= maxSum+1; k++ {
			for _, c := range orderCalls {
				wantOwnMemory(t, c, inputs{p: []int{3, 1}, q: []int{2, 2}, n: n, k: k})
			}
		}
	}
}

func TestNothingPanicsInOrders(t *testing.T) {
	wantReturnOfExtremes(t, orderCalls, extremeLists(), []string{""})
}

func TestNothingPanicsInOrdersOfAllParts(t *testing.T) {
	for _, p := range everyParts(maxSum) {
		for _, q := range [][]int{nil, {1}, {16}, {8, 8}, slices.Repeat([]int{1}, 16), {0}, p, plainConjugate(p)} {
			for _, c := range orderCalls {
				wantReturn(t, c, inputs{p: p, q: q, n: len(p), k: len(q)})
				wantReturn(t, c, inputs{p: q, q: p, n: len(p), k: len(q)})
			}
		}
	}
}
