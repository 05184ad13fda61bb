package tests

import (
	"slices"
	"testing"

	"loop.example/numberparts/impl"
)

var kindCalls = []call{
	{"IsKind", func(in inputs) [][]int { return [][]int{truth(impl.IsKind(in.s, in.p))} }},
	{"KindParts", func(in inputs) [][]int { return impl.KindParts(in.s, in.n) }},
	{"KindCount", func(in inputs) [][]int { return number(impl.KindCount(in.s, in.n)) }},
	{"PartnerOf", func(in inputs) [][]int { return [][]int{bytesOf(impl.PartnerOf(in.s))} }},
	{"AtMostParts", func(in inputs) [][]int { return number(impl.AtMostParts(in.n, in.k)) }},
	{"JustParts", func(in inputs) [][]int { return number(impl.JustParts(in.n, in.k)) }},
	{"CountIn", func(in inputs) [][]int { return number(impl.CountIn(in.p, in.n)) }},
	{"CountOnce", func(in inputs) [][]int { return number(impl.CountOnce(in.p, in.n)) }},
	{"DivisorSum", func(in inputs) [][]int { return number(impl.DivisorSum(in.n)) }},
	{"Pentagonal", func(in inputs) [][]int { return number(impl.Pentagonal(in.k)) }},
	{"SignedDistinct", func(in inputs) [][]int { return number(impl.SignedDistinct(in.n)) }},
	{"SquareSum", func(in inputs) [][]int { return number(impl.SquareSum(in.n)) }},
	{"SelfCount", func(in inputs) [][]int { return number(impl.SelfCount(in.n)) }},
}

func TestMemoryOfKinds(t *testing.T) {
	names := slices.Concat(kindNames, wrongNames[:3])
	lists := slices.Concat(everyParts(6), partsBySum[maxSum], smallSets(4), largeSets, wrongNumbers, wrongSets)
	for i, p := range lists {
		for j, name := range names {
			in := inputs{p: p, n: (i + j) % (maxCount + 2), k: j - 1, s: name}
			for _, c := range kindCalls {
				wantOwnMemory(t, c, in)
			}
		}
	}
	for n := -1; n <= maxList+1; n++ {
		for _, name := range names {
			for _, c := range kindCalls {
				wantOwnMemory(t, c, inputs{p: []int{3, 1}, n: n, k: n, s: name})
			}
		}
	}
}

func TestNothingPanicsInKinds(t *testing.T) {
	names := slices.Concat(kindNames, wrongNames)
	for i, p := range slices.Concat(extremeLists(), wrongSets) {
		for j, n := range extremeInts {
			in := inputs{p: p, n: n, k: extremeInts[(i+j)%len(extremeInts)], s: names[(i*7+j)%len(names)]}
			for _, c := range kindCalls {
				wantReturn(t, c, in)
			}
		}
	}
	for _, n := range extremeInts {
		for _, k := range extremeInts {
			for _, name := range names {
				for _, c := range kindCalls {
					wantReturn(t, c, inputs{p: []int{1, 3, 40}, n: n, k: k, s: name})
				}
			}
		}
	}
}
