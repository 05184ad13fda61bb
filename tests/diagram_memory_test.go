package tests

import (
	"fmt"
	"math"
	"slices"
	"testing"

	"loop.example/numberparts/impl"
)

// inputs are arguments for any of the functions; each takes those that it has.
type inputs struct {
	p, q []int
	n, k int
	s    string
}

// call is a function that answers with everything it returns: its slices as they are, and all else as numbers.
type call struct {
	name string
	run  func(in inputs) [][]int
}

func number(n int) [][]int {
	return [][]int{{n}}
}

func truth(ok bool) []int {
	if ok {
		return []int{1}
	}
	return []int{0}
}

func answer(p []int, ok bool) [][]int {
	return [][]int{p, truth(ok)}
}

func pair(p []int, q []int) [][]int {
	return [][]int{p, q}
}

func bytesOf(s string) []int {
	var list []int
	for i := range len(s) {
		list = append(list, int(s[i]))
	}
	return list
}

var diagramCalls = []call{
	{"ValidParts", func(in inputs) [][]int { return [][]int{truth(impl.ValidParts(in.p))} }},
	{"SumOf", func(in inputs) [][]int { return number(impl.SumOf(in.p)) }},
	{"AllParts", func(in inputs) [][]int { return impl.AllParts(in.n) }},
	{"CountParts", func(in inputs) [][]int { return number(impl.CountParts(in.n)) }},
	{"PlaceOf", func(in inputs) [][]int { return number(impl.PlaceOf(in.p)) }},
	{"PartsAt", func(in inputs) [][]int { return answer(impl.PartsAt(in.n, in.k)) }},
	{"ConjugateOf", func(in inputs) [][]int { return [][]int{impl.ConjugateOf(in.p)} }},
	{"DurfeeOf", func(in inputs) [][]int { return number(impl.DurfeeOf(in.p)) }},
	{"FrobeniusOf", func(in inputs) [][]int { return pair(impl.FrobeniusOf(in.p)) }},
	{"PartsOfFrobenius", func(in inputs) [][]int { return answer(impl.PartsOfFrobenius(in.p, in.q)) }},
	{"HooksOf", func(in inputs) [][]int { return impl.HooksOf(in.p) }},
	{"CornersOf", func(in inputs) [][]int { return [][]int{impl.CornersOf(in.p)} }},
	{"RemoveCell", func(in inputs) [][]int { return answer(impl.RemoveCell(in.p, in.k)) }},
	{"AddCell", func(in inputs) [][]int { return answer(impl.AddCell(in.p, in.k)) }},
	{"UniteParts", func(in inputs) [][]int { return answer(impl.UniteParts(in.p, in.q)) }},
	{"AddParts", func(in inputs) [][]int { return answer(impl.AddParts(in.p, in.q)) }},
	{"TimesOf", func(in inputs) [][]int { return [][]int{impl.TimesOf(in.p)} }},
	{"PartsText", func(in inputs) [][]int { return [][]int{bytesOf(impl.PartsText(in.p))} }},
	{"ParseParts", func(in inputs) [][]int { return answer(impl.ParseParts(in.s)) }},
	{"GrowthsOf", func(in inputs) [][]int { return number(impl.GrowthsOf(in.p)) }},
	{"DiagonalsOf", func(in inputs) [][]int { return [][]int{impl.DiagonalsOf(in.p)} }},
}

// roomy returns a copy of numbers with spare capacity behind them, and all of its memory.
func roomy(p []int) ([]int, []int) {
	all := slices.Clip(append(slices.Clone(p), 1, 1, 1, 99, -7))
	return all[:len(p)], all
}

// copyOf returns the numbers of results, in memory of their own.
func copyOf(results [][]int) [][]int {
	same := make([][]int, len(results))
	for i, list := range results {
		same[i] = slices.Clone(list)
	}
	return same
}

// scribble writes a number all over a slice and its spare capacity.
func scribble(list []int, n int) {
	list = list[:cap(list)]
	for i := range list {
		list[i] = n
	}
}

// haveOwnMemory writes over each of some slices and reports whether each one has kept what was written there.
func haveOwnMemory(lists [][]int) bool {
	for i, list := range lists {
		scribble(list, -1000-i)
	}
	for i, list := range lists {
		for _, n := range list[:cap(list)] {
			if n != -1000-i {
				return false
			}
		}
	}
	return true
}

// wantOwnMemory runs a call twice, and writes over its results first and over its arguments then.
func wantOwnMemory(t *testing.T, c call, in inputs) {
	t.Helper()
	var allP, allQ []int
	in.p, allP = roomy(in.p)
	in.q, allQ = roomy(in.q)
	wantP, wantQ := slices.Clone(allP), slices.Clone(allQ)
	unchanged := func(when string) {
		t.Helper()
		if !slices.Equal(allP, wantP) || !slices.Equal(allQ, wantQ) {
			t.Fatalf("%s changed its arguments %s: %v, %v to %v, %v", c.name, when, wantP, wantQ, allP, allQ)
		}
	}
	results := c.run(in)
	unchanged("when called")
	want := copyOf(results)
	if !haveOwnMemory(results) {
		t.Fatalf("%s of %v: two results share memory", c.name, in)
	}
	unchanged("when its results were written over")
	again := c.run(in)
	if !sameRows(again, want) {
		t.Fatalf("%s of %v: %v, and when called again %v", c.name, in, want, again)
	}
	scribble(in.p, -1)
	scribble(in.q, -1)
	if !sameRows(again, want) {
		t.Fatalf("%s of %v, %v: a result shares memory with an argument", c.name, wantP, wantQ)
	}
}

func TestMemoryOfDiagrams(t *testing.T) {
	lists := slices.Concat(everyParts(7), partsBySum[maxSum], wrongNumbers, [][]int{nil, {3, 0}, {2, 1, 0}, {1, 0}})
	for i, p := range lists {
		for _, q := range [][]int{nil, {1}, {2, 1}, {1, 0}, p, lists[(i*7+3)%len(lists)]} {
			for k := -1; k <= 3; k++ {
				in := inputs{p: p, q: q, n: i % (maxSum + 2), k: k, s: plainText(q)}
				for _, c := range diagramCalls {
					wantOwnMemory(t, c, in)
				}
			}
		}
	}
}

// wantOwnMemoryOfTwice runs a call with the same memory as both parts.
func wantOwnMemoryOfTwice(t *testing.T, c call, in inputs) {
	t.Helper()
	shared, all := roomy(in.p)
	want := slices.Clone(all)
	in.p, in.q = shared, shared
	if !haveOwnMemory(c.run(in)) || !slices.Equal(all, want) {
		t.Fatalf("%s of %v twice: memory is shared, and it is now %v", c.name, want, all)
	}
}

func TestMemoryOfTwiceTheSameParts(t *testing.T) {
	for _, c := range diagramCalls {
		for _, p := range everyParts(maxSum / 2) {
			wantOwnMemoryOfTwice(t, c, inputs{p: p, n: len(p), k: len(p), s: plainText(p)})
		}
	}
}

// wantNoPanic checks that a function returns, whatever its arguments are.
func wantNoPanic(t *testing.T, name string, in any, run func()) {
	t.Helper()
	defer func() {
		if r := recover(); r != nil {
			t.Fatalf("%s of %s: panic: %v", name, fmt.Sprintf("%.100s", fmt.Sprint(in)), r)
		}
	}()
	run()
}

func wantReturn(t *testing.T, c call, in inputs) {
	t.Helper()
	wantNoPanic(t, c.name, in, func() { c.run(in) })
}

// extremeInts are numbers at the limits and beyond them.
var extremeInts = []int{0, 1, -1, 2, 3, 11, 12, 13, 15, 16, 17, 39, 40, 41, 63, 64, 65, 99, 100, 101, -99, -100, -101, 1 << 31, 1 << 32, 1 << 62, -1 << 62, math.MaxInt - 1, math.MaxInt, math.MinInt, math.MinInt + 1}

// extremeLists are parts and wrong numbers, and all pairs of extreme numbers.
func extremeLists() [][]int {
	lists := slices.Concat(wrongNumbers, [][]int{nil, {}, {1}, {16}, slices.Repeat([]int{1}, 16), {4, 4, 4, 4}, {2, 1}})
	for _, n := range extremeInts {
		for _, m := range extremeInts {
			lists = append(lists, []int{n, m})
		}
	}
	return lists
}

// wantReturnOfExtremes checks that calls return for extreme numbers and some lists and texts, in many combinations.
func wantReturnOfExtremes(t *testing.T, calls []call, lists [][]int, texts []string) {
	t.Helper()
	ints := extremeInts
	for i, p := range lists {
		for j, n := range ints {
			in := inputs{p: p, q: lists[(i*13+j*29)%len(lists)], n: n, k: ints[(i+j)%len(ints)], s: texts[(i+j)%len(texts)]}
			for _, c := range calls {
				wantReturn(t, c, in)
			}
		}
	}
	for _, n := range ints {
		for _, k := range ints {
			for _, c := range calls {
				wantReturn(t, c, inputs{p: []int{3, 2}, q: []int{4, 1}, n: n, k: k})
			}
		}
	}
}

func TestNothingPanicsInDiagrams(t *testing.T) {
	texts := []string{"", "+", "1", "1+", "x", "\x00", "\xff\xfe", "-9223372036854775809", "99999999999999999999999999"}
	wantReturnOfExtremes(t, diagramCalls, extremeLists(), texts)
}

func FuzzParseParts(f *testing.F) {
	for _, s := range []string{"", "1", "4+2+1", "16", "17", "01", "+", "1+2"} {
		f.Add(s)
	}
	f.Fuzz(func(t *testing.T, s string) {
		p, ok := impl.ParseParts(s)
		if ok && (impl.PartsText(p) != s || !impl.ValidParts(p)) {
			t.Errorf("ParseParts(%q) = %v", s, p)
		}
		if !ok && len(p) != 0 {
			t.Errorf("ParseParts(%q) = %v and false", s, p)
		}
	})
}
