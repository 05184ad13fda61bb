package tests

import (
	"slices"
	"testing"

	"loop.example/numberparts/impl"
)

var mapCalls = []call{
	{"MergeEqual", func(in inputs) [][]int { return answer(impl.MergeEqual(in.p, in.k)) }},
	{"SplitEqual", func(in inputs) [][]int { return answer(impl.SplitEqual(in.p, in.k)) }},
	{"HooksToOdd", func(in inputs) [][]int { return answer(impl.HooksToOdd(in.p)) }},
	{"OddToHooks", func(in inputs) [][]int { return answer(impl.OddToHooks(in.p)) }},
	{"FranklinMap", func(in inputs) [][]int { return answer(impl.FranklinMap(in.p)) }},
	{"StairCut", func(in inputs) [][]int {
		left, steps, ok := impl.StairCut(in.p)
		return [][]int{left, {steps}, truth(ok)}
	}},
	{"StairPut", func(in inputs) [][]int { return answer(impl.StairPut(in.p, in.k)) }},
	{"SquareCut", func(in inputs) [][]int {
		side, right, below := impl.SquareCut(in.p)
		return [][]int{{side}, right, below}
	}},
	{"SquarePut", func(in inputs) [][]int { return answer(impl.SquarePut(in.k, in.p, in.q)) }},
	{"DoubleParts", func(in inputs) [][]int { return answer(impl.DoubleParts(in.p)) }},
}

func TestMemoryOfMaps(t *testing.T) {
	lists := slices.Concat(everyParts(9), partsBySum[maxSum], wrongNumbers, [][]int{nil, {3, 0}, {2, 1, 0}, {1, 0}})
	for i, p := range lists {
		for _, q := range [][]int{nil, {1}, {2, 1}, {1, 0}, p, lists[(i*7+3)%len(lists)]} {
			for k := -1; k <= 5; k++ {
				for _, c := range mapCalls {
					wantOwnMemory(t, c, inputs{p: p, q: q, k: k})
				}
			}
		}
	}
}

func TestMemoryOfMapsOfTwiceTheSameParts(t *testing.T) {
	for _, c := range mapCalls {
		for _, p := range everyParts(maxSum / 2) {
			for k := range 5 {
				wantOwnMemoryOfTwice(t, c, inputs{p: p, k: k})
			}
		}
	}
}

func TestNothingPanicsInMaps(t *testing.T) {
	lists := extremeLists()
	for i, p := range lists {
		for j, k := range extremeInts {
			for _, c := range mapCalls {
				wantReturn(t, c, inputs{p: p, q: lists[(i*13+j*29)%len(lists)], k: k})
			}
		}
	}
	for _, p := range everyParts(maxSum) {
		for _, k := range extremeInts {
			for _, c := range mapCalls {
				wantReturn(t, c, inputs{p: p, q: []int{1}, k: k})
				wantReturn(t, c, inputs{p: []int{1}, q: p, k: k})
			}
		}
	}
}
