package tests

import (
	"slices"
	"strings"
	"testing"

	"loop.example/numberparts/impl"
)

var boxCalls = []call{
	{"InBox", func(in inputs) [][]int { return [][]int{truth(impl.InBox(in.p, in.n, in.k))} }},
	{"BoxRow", func(in inputs) [][]int { return [][]int{impl.BoxRow(in.n, in.k)} }},
	{"BoxParts", func(in inputs) [][]int { return impl.BoxParts(in.n, in.k) }},
	{"OppositeIn", func(in inputs) [][]int { return answer(impl.OppositeIn(in.p, in.n, in.k)) }},
	{"PathOf", func(in inputs) [][]int { return [][]int{bytesOf(impl.PathOf(in.p, in.n, in.k))} }},
	{"PartsOfPath", func(in inputs) [][]int {
		p, a, b, ok := impl.PartsOfPath(in.s)
		return [][]int{p, {a, b}, truth(ok)}
	}},
	{"ValidSums", func(in inputs) [][]int { return [][]int{truth(impl.ValidSums(in.p))} }},
	{"MaskOf", func(in inputs) [][]int { return number(impl.MaskOf(in.p)) }},
	{"SumsOfMask", func(in inputs) [][]int { return answer(impl.SumsOfMask(in.n, in.k)) }},
	{"AllSums", func(in inputs) [][]int { return impl.AllSums(in.n) }},
	{"OppositeSums", func(in inputs) [][]int { return [][]int{impl.OppositeSums(in.p)} }},
	{"PartsOfSums", func(in inputs) [][]int { return [][]int{impl.PartsOfSums(in.p)} }},
	{"OrdersOf", func(in inputs) [][]int { return number(impl.OrdersOf(in.p)) }},
	{"TurnSums", func(in inputs) [][]int { return [][]int{impl.TurnSums(in.p)} }},
	{"LinkSums far", func(in inputs) [][]int { return answer(impl.LinkSums(in.p, in.q, false)) }},
	{"LinkSums near", func(in inputs) [][]int { return answer(impl.LinkSums(in.p, in.q, true)) }},
	{"FinerSums", func(in inputs) [][]int { return [][]int{truth(impl.FinerSums(in.p, in.q))} }},
}

// someOfAllKinds are summands, parts and wrong numbers.
func someOfAllKinds() [][]int {
	return slices.Concat(everySums(6), everyParts(8), someSums(maxSum, 2000), wrongSummands, [][]int{nil, {}, {3, 0}, {1, 2, 0}, {4, 4, 4, 4}})
}

func TestMemoryOfBoxesAndSummands(t *testing.T) {
	lists := someOfAllKinds()
	paths := []string{"", "neneene", "eeee", "nnnn", "nnnnn", "enx"}
	for i, p := range lists {
		for j, q := range [][]int{nil, {1}, {1, 2}, {2, 1}, p, lists[(i+1)%len(lists)], lists[(i*7+3)%len(lists)]} {
			for _, c := range boxCalls {
				wantOwnMemory(t, c, inputs{p: p, q: q, n: (i+j)%(maxSide+3) - 1, k: j % (maxSide + 2), s: paths[(i+j)%len(paths)]})
				wantOwnMemory(t, c, inputs{p: q, q: p, n: maxSide, k: maxSide})
			}
		}
	}
}

func TestMemoryOfBoxesAndSummandsOfTwiceTheSame(t *testing.T) {
	for _, c := range boxCalls {
		for _, p := range slices.Concat(everySums(8), everyParts(maxSum/2), someSums(maxSum, 2000)) {
			wantOwnMemoryOfTwice(t, c, inputs{p: p, n: len(p), k: len(p), s: strings.Repeat("en", len(p)%5)})
		}
	}
}

func TestMemoryOfAllBoxesAndSums(t *testing.T) {
	for n := -1; n <= maxSum+1; n++ {
		for k := -1; k <= 40; k++ {
			for _, c := range boxCalls {
				wantOwnMemory(t, c, inputs{p: []int{3, 1}, q: []int{1, 2}, n: n, k: k, s: "neneene"})
			}
		}
	}
}

func TestNothingPanicsInBoxesAndSummands(t *testing.T) {
	lists := slices.Concat(extremeLists(), someOfAllKinds())
	texts := []string{"", "e", "n", "nnnn", "nnnnn", "eeeee", "x", "\x00", "\xff\xfe", "neneene", strings.Repeat("n", 100), strings.Repeat("e", 100)}
	wantReturnOfExtremes(t, boxCalls, lists, texts)
}

func TestNothingPanicsInBoxesOfAllParts(t *testing.T) {
	for _, p := range everyParts(maxSum) {
		for n := -1; n <= maxSide+1; n++ {
			for _, c := range boxCalls {
				wantReturn(t, c, inputs{p: p, q: p, n: n, k: maxSide})
				wantReturn(t, c, inputs{p: p, q: nil, n: maxSide, k: n})
			}
		}
	}
}

func FuzzPartsOfPath(f *testing.F) {
	for _, s := range []string{"", "n", "e", "neneene", "nnnnn", "eeeee", "nx"} {
		f.Add(s)
	}
	f.Fuzz(func(t *testing.T, s string) {
		p, a, b, ok := impl.PartsOfPath(s)
		if ok && (impl.PathOf(p, a, b) != s || !impl.InBox(p, a, b)) {
			t.Errorf("PartsOfPath(%q) = %v, %d, %d", s, p, a, b)
		}
		if !ok && (len(p) != 0 || a != 0 || b != 0) {
			t.Errorf("PartsOfPath(%q) = %v, %d, %d and false", s, p, a, b)
		}
	})
}
