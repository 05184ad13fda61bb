package tests

import (
	"cmp"
	"fmt"
	"math"
	"slices"
	"strconv"
	"strings"
	"testing"

	"loop.example/numberparts/impl"
)

// manyMarked tells how many marked parts have each sum from 0 to 40.
var manyMarked = []int{
	1, 2, 4, 8, 14, 24, 40, 64, 100, 154, 232, 344, 504, 728, 1040, 1472, 2062, 2864, 3948, 5400, 7336,
	9904, 13288, 17728, 23528, 31066, 40824, 53408, 69568, 90248, 116624, 150144, 192612, 246256, 313808, 398640, 504886, 637592, 802936, 1008448, 1263272,
}

// manyPiles tells how many piles have each sum from 0 to 16.
var manyPiles = []int{1, 1, 3, 6, 13, 24, 48, 86, 160, 282, 500, 859, 1479, 2485, 4167, 6879, 11297}

// everyMarks returns all lists of n marks.
func everyMarks(n int) [][]bool {
	all := [][]bool{nil}
	for range n {
		var longer [][]bool
		for _, marks := range all {
			longer = append(longer, append(slices.Clone(marks), false), append(slices.Clone(marks), true))
		}
		all = longer
	}
	return all
}

// isMarkedPlainly is ValidMarked as the document says it, for numbers that can be added up.
func isMarkedPlainly(m impl.Marked) bool {
	if !arePartsPlainly(m.Parts) || len(m.Marks) != len(m.Parts) {
		return false
	}
	for i, mark := range m.Marks {
		if mark && slices.Contains(m.Parts[i+1:], m.Parts[i]) {
			return false
		}
	}
	return true
}

// cornerBits is the number by which marked parts with the same parts stand.
func cornerBits(m impl.Marked) int {
	bits := 0
	for k, i := range plainCorners(m.Parts) {
		if m.Marks[i] {
			bits += 1 << k
		}
	}
	return bits
}

// markedBySum are all valid marked parts with each sum, in the order of AllMarked.
var markedBySum = makeMarkedBySum()

func makeMarkedBySum() [][]impl.Marked {
	bySum := make([][]impl.Marked, maxSum+1)
	for n, list := range partsBySum {
		for _, p := range list {
			var same []impl.Marked
			for _, marks := range everyMarks(len(p)) {
				if m := (impl.Marked{Parts: p, Marks: marks}); isMarkedPlainly(m) {
					same = append(same, m)
				}
			}
			slices.SortFunc(same, func(a, b impl.Marked) int { return cmp.Compare(cornerBits(a), cornerBits(b)) })
			bySum[n] = append(bySum[n], same...)
		}
	}
	return bySum
}

// everyMarked returns all valid marked parts.
func everyMarked() []impl.Marked {
	return slices.Concat(markedBySum...)
}

// wrongMarked are not valid: with marks that are too many or too few, on others than the last one of equal ones, or on numbers that are no parts.
var wrongMarked = makeWrongMarked()

func makeWrongMarked() []impl.Marked {
	var wrong []impl.Marked
	for _, p := range slices.Concat(everyParts(7), [][]int{{16}, {15, 1}, {4, 4, 4, 4}, slices.Repeat([]int{1}, 16)}) {
		for _, marks := range everyMarks(min(len(p), 7)) {
			wrong = append(wrong, impl.Marked{Parts: p, Marks: marks}, impl.Marked{Parts: p, Marks: append(slices.Clone(marks), false)}, impl.Marked{Parts: p, Marks: append(slices.Clone(marks), true)})
			wrong = append(wrong, impl.Marked{Parts: p, Marks: marks[:max(0, len(marks)-1)]})
		}
		wrong = append(wrong, impl.Marked{Parts: p}, impl.Marked{Marks: make([]bool, len(p))}, impl.Marked{Parts: p, Marks: make([]bool, maxSum+1)})
	}
	wrong = append(slices.DeleteFunc(wrong, isMarkedPlainly), impl.Marked{Marks: make([]bool, 100000)}, impl.Marked{Parts: []int{1}, Marks: make([]bool, 100000)})
	for _, p := range wrongNumbers {
		marked := slices.Repeat([]bool{true}, len(p))
		wrong = append(wrong, impl.Marked{Parts: p}, impl.Marked{Parts: p, Marks: make([]bool, len(p))}, impl.Marked{Parts: p, Marks: marked})
	}
	return wrong
}

// plainSplitMarked is SplitMarked as the document says it, of valid marked parts.
func plainSplitMarked(m impl.Marked) ([]int, []int) {
	var marked, others []int
	for i, mark := range m.Marks {
		if mark {
			marked = append(marked, m.Parts[i])
		} else {
			others = append(others, m.Parts[i])
		}
	}
	return marked, others
}

// plainTurnMarked is TurnMarked as the document says it, of valid marked parts.
func plainTurnMarked(m impl.Marked) impl.Marked {
	q := plainConjugate(m.Parts)
	marks := make([]bool, len(q))
	for i, part := range q {
		marks[i] = !slices.Contains(q[i+1:], part) && m.Marks[part-1]
	}
	return impl.Marked{Parts: q, Marks: marks}
}

// markedOf returns the marked parts of a text, in which marked ones have a * behind.
func markedOf(t *testing.T, s string) impl.Marked {
	t.Helper()
	var marks []bool
	for _, word := range strings.FieldsFunc(s, func(r rune) bool { return r == '+' }) {
		marks = append(marks, strings.HasSuffix(word, "*"))
	}
	return impl.Marked{Parts: numbersOf(t, strings.ReplaceAll(s, "*", "")), Marks: marks}
}

func sameMarked(a, b impl.Marked) bool {
	return slices.Equal(a.Parts, b.Parts) && slices.Equal(a.Marks, b.Marks)
}

// wantMarked checks a result of marked parts, or of the zero value.
func wantMarked(t *testing.T, what string, got, want impl.Marked) {
	t.Helper()
	if !sameMarked(got, want) {
		t.Errorf("%s = %v, want %v", what, got, want)
	}
}

// put returns the marked parts of two ones that there have to be.
func put(t *testing.T, a, b []int) impl.Marked {
	t.Helper()
	m, ok := impl.PutMarked(a, b)
	if !ok {
		t.Fatalf("PutMarked(%v, %v): false", a, b)
	}
	return m
}

// isPilePlainly is ValidPile as the document says it, for numbers that can be added up.
func isPilePlainly(rows [][]int) bool {
	for i, row := range rows {
		if !arePartsPlainly(row) || len(row) == 0 || i > 0 && !hasInsidePlainly(rows[i-1], row) {
			return false
		}
	}
	return total(slices.Concat(rows...)) <= maxSum
}

// pileAhead orders piles of one sum as AllPiles does.
func pileAhead(a, b [][]int) int {
	for i := range a {
		if order := cmp.Or(cmp.Compare(total(b[i]), total(a[i])), comesAhead(a[i], b[i])); order != 0 {
			return order
		}
	}
	return 0
}

// pilesBySum are all piles with each sum, in the order of AllPiles.
var pilesBySum = makePilesBySum()

func makePilesBySum() [][][][]int {
	bySum := make([][][][]int, maxSum+1)
	var grow func(rows [][]int, sum int)
	grow = func(rows [][]int, sum int) {
		bySum[sum] = append(bySum[sum], rows)
		for _, p := range everyParts(maxSum - sum) {
			if len(p) > 0 && (len(rows) == 0 || hasInsidePlainly(rows[len(rows)-1], p)) {
				grow(append(slices.Clone(rows), p), sum+total(p))
			}
		}
	}
	grow(nil, 0)
	for _, list := range bySum {
		slices.SortFunc(list, pileAhead)
	}
	return bySum
}

// everyPile returns all piles with a sum up to n.
func everyPile(n int) [][][]int {
	return slices.Concat(pilesBySum[:n+1]...)
}

// everyRows calls f with all rows of some lists, at most so many of them.
func everyRows(lists [][]int, many int, f func(rows [][]int)) {
	f(nil)
	if many == 0 {
		return
	}
	for _, row := range lists {
		everyRows(lists, many-1, func(rows [][]int) { f(append([][]int{row}, rows...)) })
	}
}

// smallLists returns all lists of at most length numbers from least to most.
func smallLists(length, least, most int) [][]int {
	var lists [][]int
	everySmallList(length, least, most, func(list []int) { lists = append(lists, list) })
	return lists
}

// wrongRows are no pile. Some of them have a sum within the limit once it has left the range of int.
var wrongRows = makeWrongRows()

func makeWrongRows() [][][]int {
	wrong := [][][]int{
		{nil}, {{}}, {{}, {}}, {{1}, {}}, {{}, {1}}, {{1}, {}, {1}}, {{2, 1}, {1}, {}}, {{0}}, {{1}, {0}}, {{1, 0}}, {{-1}}, {{1}, {-1}}, {{1}, {2}}, {{1}, {1, 1}}, {{2, 1}, {1, 2}}, {{2, 1}, {2, 2}},
		{{3, 1}, {2, 2}}, {{2, 2}, {3}}, {{2}, {2}, {3}}, {{3}, {1}, {2}}, {{1, 1}, {1}, {1, 1}}, {{17}}, {{16}, {1}}, {{8}, {8}, {1}}, {{8, 8}, {1}}, {{9}, {8}}, {{4, 4}, {4, 4}, {1}}, {{16}, {16}},
		slices.Repeat([][]int{{1}}, 17), slices.Repeat([][]int{{1}}, 100000), slices.Repeat([][]int{{16}}, 100000), slices.Repeat([][]int{{}}, 100000), slices.Repeat([][]int{{1 << 60}}, 16),
		{{math.MaxInt}, {math.MaxInt}, {2}}, {{math.MaxInt}, {math.MinInt}, {2}}, {{16}, {math.MinInt}}, {{math.MaxInt}, {1}}, {{1}, {math.MaxInt}},
	}
	for _, p := range wrongNumbers {
		wrong = append(wrong, [][]int{p}, [][]int{{1}, p}, [][]int{{8, 4}, p}, [][]int{p, {1}}, [][]int{p, p}, [][]int{{16}, p})
	}
	return wrong
}

func plainTurnPile(rows [][]int) [][]int {
	var turned [][]int
	for k := range maxSum {
		var column []int
		for _, row := range rows {
			if k < len(row) {
				column = append(column, row[k])
			}
		}
		if len(column) > 0 {
			turned = append(turned, column)
		}
	}
	return turned
}

func plainLayers(rows [][]int) [][]int {
	var layers [][]int
	for h := 1; h <= greatest(slices.Concat(rows...)); h++ {
		var layer []int
		for _, row := range rows {
			if many := atLeast(row, h); many > 0 {
				layer = append(layer, many)
			}
		}
		layers = append(layers, layer)
	}
	return layers
}

// rowsOf returns the rows of a text with a / between two of them.
func rowsOf(t *testing.T, s string) [][]int {
	t.Helper()
	var rows [][]int
	for _, row := range strings.FieldsFunc(s, func(r rune) bool { return r == '/' }) {
		rows = append(rows, numbersOf(t, row))
	}
	return rows
}

// briefRows returns the text of rows, cut off where there are too many.
func briefRows(rows [][]int) string {
	return fmt.Sprintf("%.100v", fmt.Sprint(rows))
}

// plainBoxPiles counts the piles in a box one by one: with at most a rows inside of the parts p, of some.
func plainBoxPiles(a int, p []int, list [][]int) int {
	if a == 0 {
		return 1
	}
	many := 0
	for _, q := range list {
		switch {
		case len(q) == 0:
			many++
		case hasInsidePlainly(p, q):
			many += plainBoxPiles(a-1, q, list)
		}
	}
	return many
}

// plainOrders returns in how many orders parts may stand.
func plainOrders(p []int) int {
	orders := product(upTo(len(p), 1))
	for part := 1; part <= maxSum; part++ {
		orders /= product(upTo(times(p, part), 1))
	}
	return orders
}

// deskWords are all words of a desk.
var deskWords = []string{"place", "durfee", "orders", "rank", "crank", "conjugate", "merge", "split", "franklin"}

// deskParts tells the parts of each text.
var deskParts = partsByText()

// plainAnswer is what RunDesk answers to a line, as the document says it.
func plainAnswer(line string) string {
	words := strings.Split(line, " ")
	if len(words) != 2 || !slices.Contains(deskWords, words[0]) {
		return "what"
	}
	p, ok := deskParts[words[1]]
	if !ok {
		return "wrong"
	}
	switch words[0] {
	case "place":
		return strconv.Itoa(slices.IndexFunc(partsBySum[total(p)], func(q []int) bool { return slices.Equal(p, q) }))
	case "durfee":
		return strconv.Itoa(plainDurfee(p))
	case "orders":
		return strconv.Itoa(plainOrders(p))
	case "rank":
		return strconv.Itoa(plainRank(p))
	case "crank":
		return strconv.Itoa(plainCrank(p))
	case "conjugate":
		return plainText(plainConjugate(p))
	case "merge":
		return textOrNone(plainMerge(p, 2))
	case "split":
		return textOrNone(plainSplit(p, 2))
	}
	return textOrNone(plainFranklin(p))
}

func textOrNone(p []int, ok bool) string {
	if !ok {
		return "none"
	}
	return plainText(p)
}

// plainAnswers are all answers to lines, each with a newline.
func plainAnswers(lines []string) string {
	all := ""
	for _, line := range lines {
		all += plainAnswer(line) + "\n"
	}
	return all
}

// oddLines are lines of words that are known or not, with and without a space, and texts that are parts or not.
var oddLines = makeOddLines()

func makeOddLines() []string {
	words := append([]string{"", "Place", "RANK", "plac", "places", "ranks", "what", "wrong", "none", "walk", "help", "merge2", "sum", "\x00", "\xff"}, deskWords...)
	spaces := []string{"", " ", "  ", "   ", "\t", " \t", "\t ", "\n", " \n", "\u00a0", "\u2003", "+", "_", "\x00"}
	texts := []string{
		"", "1", "2+1", "16", "17", "8+8", "16+1", "01", "1+2", "0", "00", "-1", "--1", "+1", "+", "1+", "1++1", "x", "1x", "2 +1", "2+ 1", "2 + 1", "1 ", " 1", " ", "1\n", "\n1", "\t1", "1\t", "\n", "\x00", "\xff", "1\u00a0", "\u00a01",
		"9223372036854775807", "9223372036854775808", "18446744073709551617", "１", "1e1", "0x1", "1_0", "1.0", "none", "rank", "rank 1", "()", "[2 1]", "2,1", "1\nrank 1",
	}
	var lines []string
	for _, word := range words {
		for _, space := range spaces {
			for _, text := range texts {
				lines = append(lines, word+space+text, " "+word+space+text, word+space+text+" ")
			}
		}
	}
	return append(lines, strings.Repeat(" ", 1000), strings.Repeat("rank ", 1000), "rank "+strings.Repeat("1+", 1<<16), "rank "+strings.Repeat("1", 1<<16), strings.Repeat("rank", 1<<16), "rank"+strings.Repeat(" ", 1<<16)+"1")
}
