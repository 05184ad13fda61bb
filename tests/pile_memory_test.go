package tests

import (
	"fmt"
	"reflect"
	"slices"
	"strings"
	"testing"

	"loop.example/numberparts/impl"
)

// pileInputs are arguments for any of the functions of marks and piles; each takes those that it has.
type pileInputs struct {
	Marked  impl.Marked
	P, Q    []int
	Rows    [][]int
	Lines   []string
	N, K, L int
}

// pileCall is a function that answers with everything it returns.
type pileCall struct {
	name string
	run  func(in pileInputs) []any
}

// results returns what a function returns, as one list.
func results(all ...any) []any {
	return all
}

func putResults(m impl.Marked, ok bool) []any {
	return results(m, ok)
}

func splitResults(a []int, b []int) []any {
	return results(a, b)
}

var pileCalls = []pileCall{
	{"ValidMarked", func(in pileInputs) []any { return results(impl.ValidMarked(in.Marked)) }},
	{"AllMarked", func(in pileInputs) []any { return results(impl.AllMarked(in.N)) }},
	{"CountMarked", func(in pileInputs) []any { return results(impl.CountMarked(in.N)) }},
	{"SplitMarked", func(in pileInputs) []any { return splitResults(impl.SplitMarked(in.Marked)) }},
	{"PutMarked", func(in pileInputs) []any { return putResults(impl.PutMarked(in.P, in.Q)) }},
	{"ValidPile", func(in pileInputs) []any { return results(impl.ValidPile(in.Rows)) }},
	{"PileSum", func(in pileInputs) []any { return results(impl.PileSum(in.Rows)) }},
	{"AllPiles", func(in pileInputs) []any { return results(impl.AllPiles(in.N)) }},
	{"CountPiles", func(in pileInputs) []any { return results(impl.CountPiles(in.N)) }},
	{"TurnPile", func(in pileInputs) []any { return results(impl.TurnPile(in.Rows)) }},
	{"LayersOf", func(in pileInputs) []any { return results(impl.LayersOf(in.Rows)) }},
	{"RunDesk", func(in pileInputs) []any { return results(impl.RunDesk(in.Lines)) }},
	{"TurnMarked", func(in pileInputs) []any { return results(impl.TurnMarked(in.Marked)) }},
	{"BoxPiles", func(in pileInputs) []any { return results(impl.BoxPiles(in.N, in.K, in.L)) }},
	{"IsEvenPile", func(in pileInputs) []any { return results(impl.IsEvenPile(in.Rows)) }},
}

// eachSlice calls f with each slice in a value, as long as its memory is, and with those in it.
func eachSlice(v reflect.Value, f func(all reflect.Value)) {
	switch v.Kind() {
	case reflect.Interface:
		eachSlice(v.Elem(), f)
	case reflect.Struct:
		for i := range v.NumField() {
			eachSlice(v.Field(i), f)
		}
	case reflect.Slice:
		all := v.Slice(0, v.Cap())
		f(all)
		for i := range all.Len() {
			eachSlice(all.Index(i), f)
		}
	}
}

// span is memory from its first byte to the one behind its last one.
type span struct {
	from, to uintptr
}

// spansOf returns the memory of all slices in a list of values, that of the list left out.
func spansOf(values []any) []span {
	var spans []span
	for _, value := range values {
		eachSlice(reflect.ValueOf(value), func(all reflect.Value) {
			size := uintptr(all.Len()) * all.Type().Elem().Size()
			if size > 0 {
				spans = append(spans, span{all.Pointer(), all.Pointer() + size})
			}
		})
	}
	return spans
}

// shareNone reports whether all of some spans are apart.
func shareNone(spans []span) bool {
	spans = slices.Clone(spans)
	slices.SortFunc(spans, func(a, b span) int { return int(a.from) - int(b.from) })
	for i := 1; i < len(spans); i++ {
		if spans[i].from < spans[i-1].to {
			return false
		}
	}
	return true
}

// sharesWith reports whether one of some spans has a part of one of others.
func sharesWith(spans, others []span) bool {
	return slices.ContainsFunc(spans, func(a span) bool {
		return slices.ContainsFunc(others, func(b span) bool { return a.from < b.to && b.from < a.to })
	})
}

// wholeText returns the text of all slices in a value, with what lies beyond their lengths.
func wholeText(value any) string {
	var text strings.Builder
	eachSlice(reflect.ValueOf(value), func(all reflect.Value) {
		fmt.Fprintf(&text, "%q;", fmt.Sprint(all.Interface()))
	})
	return text.String()
}

// writeOver clears all memory of slices in some values.
func writeOver(values []any) {
	var found []reflect.Value
	for _, value := range values {
		eachSlice(reflect.ValueOf(value), func(all reflect.Value) { found = append(found, all) })
	}
	for _, all := range found {
		all.Clear()
	}
}

// withRoom returns a copy of a list with more memory behind it.
func withRoom[T any](list []T, more ...T) []T {
	return append(slices.Clone(list), more...)[:len(list)]
}

// roomyInputs returns a copy of arguments in which each slice has more memory behind it.
func roomyInputs(in pileInputs) pileInputs {
	in.Marked = impl.Marked{Parts: withRoom(in.Marked.Parts, 1, 1, -7), Marks: withRoom(in.Marked.Marks, true, false, true)}
	in.P, in.Q = withRoom(in.P, 1, 1, -7), withRoom(in.Q, 1, 1, -7)
	rows := withRoom(in.Rows, []int{1}, []int{1}, nil)
	for i, row := range rows {
		rows[i] = withRoom(row, 1, 1, -7)
	}
	in.Rows = rows
	in.Lines = withRoom(in.Lines, "rank 1", "", "x")
	return in
}

// wantOwnPileMemory runs a call, writes over what it returns, and runs it again.
func wantOwnPileMemory(t *testing.T, c pileCall, in pileInputs) {
	t.Helper()
	wantArguments := wholeText(in)
	first := c.run(in)
	if !shareNone(spansOf(first)) {
		t.Fatalf("%s of %v: two results share memory", c.name, in)
	}
	if sharesWith(spansOf(first), spansOf(results(in))) {
		t.Fatalf("%s of %v: a result shares memory with an argument", c.name, in)
	}
	want := fmt.Sprint(first)
	writeOver(first)
	if again := fmt.Sprint(c.run(in)); again != want {
		t.Fatalf("%s of %v: %s, and when called again %s", c.name, in, want, again)
	}
	if got := wholeText(in); got != wantArguments {
		t.Fatalf("%s changed its arguments: %s to %s", c.name, wantArguments, got)
	}
}

func TestWhatTellsSharedMemory(t *testing.T) {
	list := []int{1, 2, 3, 4}
	for _, c := range []struct {
		what   string
		values []any
		shares bool
	}{
		{"one list", results(list), false},
		{"one list twice", results(list, list), true},
		{"both halves, the first with the room of the second", results(list[:2], list[2:]), true},
		{"both halves", results(list[:2:2], list[2:]), false},
		{"rows of one list", results([][]int{list[:2], list[2:]}), true},
		{"a row beyond the length", results(list, [][]int{list}[:0]), true},
		{"marked parts of one list", results([]impl.Marked{{Parts: list[:1]}, {Parts: list[1:]}}), true},
		{"lists of nothing", results(list[4:], list[4:], []int{}, []int{}), false},
	} {
		wantTruth(t, "whether "+c.what+" is apart", shareNone(spansOf(c.values)), !c.shares)
	}
	wantTruth(t, "whether a list shares with its end", sharesWith(spansOf(results(list)), spansOf(results(list[3:]))), true)
	wantTruth(t, "whether a list shares with its copy", sharesWith(spansOf(results(list)), spansOf(results(slices.Clone(list)))), false)
	if in := roomyInputs(pileInputs{P: list}); wholeText(in) == wholeText(pileInputs{P: list}) || len(in.P) != len(list) {
		t.Errorf("no room in %v", in)
	}
}

// shortOnes leaves out the lists that take too long when they are written as texts again and again.
func shortOnes[T any](lists [][]T) [][]T {
	return slices.DeleteFunc(slices.Clone(lists), func(list []T) bool { return len(fmt.Sprint(list)) > 1000 })
}

// somePileInputs are arguments of all kinds, right ones and wrong ones.
func somePileInputs() []pileInputs {
	marked := slices.Concat(slices.Concat(markedBySum[:8]...), markedBySum[maxSum][:50], wrongMarked[:400])
	rows := slices.Concat(everyPile(7), pilesBySum[maxSum][:50], shortOnes(wrongRows), [][][]int{nil, {}, {{2, 1, 0}}, {{2}, {1, 0}}})
	parts := slices.Concat(everyParts(7), shortOnes(wrongNumbers), [][]int{{2, 0}, {1, 0}})
	var list []pileInputs
	for i, m := range marked {
		some := oddLines[i%len(oddLines):][:i%(maxDesk+2)]
		list = append(list, pileInputs{Marked: m, P: parts[i%len(parts)], Q: parts[(i*7+3)%len(parts)], Rows: rows[i%len(rows)], Lines: some, N: i%(maxMarked+3) - 1, K: i % (maxSide + 2), L: i % 3})
	}
	for i, r := range rows {
		list = append(list, pileInputs{Marked: marked[i%len(marked)], P: parts[i%len(parts)], Q: parts[i%len(parts)], Rows: r})
	}
	return list
}

func TestMemoryOfMarksAndPiles(t *testing.T) {
	for _, in := range somePileInputs() {
		for _, c := range pileCalls {
			wantOwnPileMemory(t, c, roomyInputs(in))
		}
	}
}

func TestMemoryOfTwoParts(t *testing.T) {
	everyPair(func(p, q []int) {
		if total(p)+total(q) > 10 {
			return
		}
		for _, c := range pileCalls {
			wantOwnPileMemory(t, c, roomyInputs(pileInputs{P: p, Q: q, Rows: [][]int{p, q}}))
		}
	})
}

func TestMemoryOfAllMarkedAndAllPiles(t *testing.T) {
	for n := -1; n <= maxSum+1; n++ {
		for k := -1; k <= maxSide+1; k++ {
			for _, c := range pileCalls {
				wantOwnPileMemory(t, c, pileInputs{N: n, K: k, L: n - k})
			}
		}
	}
}

// TestMemoryOfTwiceTheSame has the same memory in both parts, in all rows, and in the parts that are marked.
func TestMemoryOfTwiceTheSame(t *testing.T) {
	for _, p := range everyParts(maxSum / 2) {
		shared := withRoom(p, 1, 1, -7)
		in := pileInputs{Marked: impl.Marked{Parts: shared, Marks: make([]bool, len(p))}, P: shared, Q: shared, Rows: [][]int{shared, shared}}
		for _, c := range pileCalls {
			wantOwnPileMemory(t, c, in)
		}
	}
}

// wantPileReturn checks that all calls return, whatever their arguments are.
func wantPileReturn(t *testing.T, in pileInputs) {
	t.Helper()
	for _, c := range pileCalls {
		wantNoPanic(t, c.name, in, func() { c.run(in) })
	}
}

func TestNothingPanicsInMarksAndPiles(t *testing.T) {
	lists := extremeLists()
	for i, p := range lists {
		for j, n := range extremeInts {
			q := lists[(i*13+j*29)%len(lists)]
			marks := make([]bool, min(len(p), 20)+j%3)
			marks = append(marks, i%2 == 0)[i%2:]
			wantPileReturn(t, pileInputs{
				Marked: impl.Marked{Parts: p, Marks: marks}, P: p, Q: q, Rows: [][]int{p, q, p}, Lines: []string{"rank " + plainText(q[:min(len(q), 30)]), oddLines[(i+j)%len(oddLines)]},
				N: n, K: extremeInts[(i+j)%len(extremeInts)], L: extremeInts[(i*7+j)%len(extremeInts)],
			})
		}
	}
	for _, n := range extremeInts {
		for _, k := range extremeInts {
			for _, l := range extremeInts {
				wantPileReturn(t, pileInputs{N: n, K: k, L: l})
			}
		}
	}
}

func TestNothingPanicsInWrongMarksAndRows(t *testing.T) {
	for i, m := range wrongMarked {
		wantPileReturn(t, pileInputs{Marked: m, P: m.Parts, Q: m.Parts, Rows: wrongRows[i%len(wrongRows)]})
	}
	for _, lines := range [][]string{nil, {}, {"\x00"}, {"\xff\xfe 1", "rank \xff"}, make([]string, 1<<20), {strings.Repeat("merge 1+", 1<<20)}, {"merge " + strings.Repeat("1+", 1<<20) + "1"}} {
		wantPileReturn(t, pileInputs{Lines: lines})
	}
}

func FuzzRunDesk(f *testing.F) {
	for _, s := range []string{"", "rank 2+1", "merge 1+1", "split 2+2", "franklin ", "crank 1+2", "place  1", "what\nwrong"} {
		f.Add(s, s)
	}
	f.Fuzz(func(t *testing.T, first, second string) {
		lines := []string{first, second}
		if out := impl.RunDesk(lines); out != plainAnswers(lines) {
			t.Errorf("RunDesk(%q) = %q", lines, out)
		}
	})
}
