package tests

import (
	"fmt"
	"math"
	"slices"
	"strings"
	"testing"

	"loop.example/numberparts/impl"
)

func TestValidMarked(t *testing.T) {
	for _, p := range everyParts(maxSum) {
		for _, marks := range everyMarks(len(p)) {
			m := impl.Marked{Parts: p, Marks: marks}
			if got := impl.ValidMarked(m); got != isMarkedPlainly(m) {
				t.Fatalf("ValidMarked(%v) = %v", m, got)
			}
		}
	}
	everySmallList(3, -2, maxSum+2, func(p []int) {
		for _, marks := range everyMarks(len(p)) {
			m := impl.Marked{Parts: p, Marks: marks}
			if got := impl.ValidMarked(m); got != isMarkedPlainly(m) {
				t.Fatalf("ValidMarked(%v) = %v", m, got)
			}
		}
	})
	for _, m := range wrongMarked {
		wantTruth(t, fmt.Sprintf("ValidMarked(%s with %d marks)", brief(m.Parts), len(m.Marks)), impl.ValidMarked(m), false)
	}
	if !impl.ValidMarked(impl.Marked{}) || !impl.ValidMarked(impl.Marked{Parts: []int{}, Marks: []bool{}}) {
		t.Error("no parts with no marks are valid")
	}
}

func wantAllMarked(t *testing.T, n int, want []impl.Marked) {
	t.Helper()
	if all := impl.AllMarked(n); !slices.EqualFunc(all, want, sameMarked) {
		t.Errorf("AllMarked(%d) = %v, want %v", n, all, want)
	}
}

func TestAllMarked(t *testing.T) {
	for n := range maxMarked + 1 {
		wantAllMarked(t, n, markedBySum[n])
	}
	for _, n := range append(wrongSums(maxMarked), maxList, maxSum, maxCount) {
		wantAllMarked(t, n, nil)
	}
	wantAllMarked(t, 0, []impl.Marked{{}})
	for k, texts := range []string{"1 1*", "2 2* 1+1 1+1*", "3 3* 2+1 2*+1 2+1* 2*+1* 1+1+1 1+1+1*"} {
		var want []impl.Marked
		for _, s := range strings.Fields(texts) {
			want = append(want, markedOf(t, s))
		}
		wantAllMarked(t, k+1, want)
	}
}

func TestCountMarked(t *testing.T) {
	for n, want := range manyMarked {
		wantNumber(t, fmt.Sprintf("CountMarked(%d)", n), impl.CountMarked(n), want)
	}
	for _, n := range wrongSums(maxCount) {
		wantNumber(t, fmt.Sprintf("CountMarked(%d)", n), impl.CountMarked(n), -1)
	}
}

func wantSplitMarked(t *testing.T, m impl.Marked, marked, others []int) {
	t.Helper()
	a, b := impl.SplitMarked(m)
	if !slices.Equal(a, marked) || !slices.Equal(b, others) {
		t.Errorf("SplitMarked of %s with %d marks = %v, %v, want %v, %v", brief(m.Parts), len(m.Marks), a, b, marked, others)
	}
}

func TestSplitMarkedAndTurnMarked(t *testing.T) {
	for _, m := range everyMarked() {
		marked, others := plainSplitMarked(m)
		wantSplitMarked(t, m, marked, others)
		wantMarked(t, fmt.Sprintf("TurnMarked(%v)", m), impl.TurnMarked(m), plainTurnMarked(m))
	}
	for _, m := range wrongMarked {
		wantSplitMarked(t, m, nil, nil)
		wantMarked(t, fmt.Sprintf("TurnMarked of %s with %d marks", brief(m.Parts), len(m.Marks)), impl.TurnMarked(m), impl.Marked{})
	}
}

// TestMarkedByText has marked parts with no marks and with all of them among others.
func TestMarkedByText(t *testing.T) {
	for _, c := range []struct{ m, marked, others, turned string }{
		{"", "", "", ""}, {"1", "", "1", "1"}, {"1*", "1", "", "1*"}, {"3+1+1", "", "3+1+1", "3+1+1"}, {"3*+1+1*", "3+1", "1", "3*+1+1*"}, {"3*+1+1", "3", "1+1", "3+1+1*"}, {"3+1+1*", "1", "3+1", "3*+1+1"},
		{"4*+2+1", "4", "2+1", "3+2+1+1*"}, {"4+2*+1", "2", "4+1", "3+2*+1+1"}, {"4+2+1*", "1", "4+2", "3*+2+1+1"}, {"4*+2*+1*", "4+2+1", "", "3*+2*+1+1*"}, {"2+2*", "2", "2", "2+2*"}, {"16*", "16", "", "1+1+1+1+1+1+1+1+1+1+1+1+1+1+1+1*"},
		{"1+1+1+1+1+1+1+1+1+1+1+1+1+1+1+1*", "1", "1+1+1+1+1+1+1+1+1+1+1+1+1+1+1", "16*"}, {"6*+5*+3*+2*", "6+5+3+2", "", "4+4*+3*+2+2*+1*"}, {"8+8*", "8", "8", "2+2+2+2+2+2+2+2*"},
	} {
		m := markedOf(t, c.m)
		wantTruth(t, fmt.Sprintf("ValidMarked(%s)", c.m), impl.ValidMarked(m), true)
		wantSplitMarked(t, m, numbersOf(t, c.marked), numbersOf(t, c.others))
		wantMarked(t, fmt.Sprintf("TurnMarked(%s)", c.m), impl.TurnMarked(m), markedOf(t, c.turned))
		wantMarked(t, fmt.Sprintf("PutMarked(%s, %s)", c.marked, c.others), put(t, numbersOf(t, c.marked), numbersOf(t, c.others)), m)
	}
	for _, s := range []string{"1*+1", "1*+1*", "2*+2+1", "3+1*+1", "4*+4*+4*+4*", "17", "17*", "1+2", "1*+2*", "0*", "16+1*"} {
		m := markedOf(t, s)
		wantTruth(t, fmt.Sprintf("ValidMarked(%s)", s), impl.ValidMarked(m), false)
		wantSplitMarked(t, m, nil, nil)
		wantMarked(t, fmt.Sprintf("TurnMarked(%s)", s), impl.TurnMarked(m), impl.Marked{})
	}
}

// splitText is the text of what SplitMarked answers.
func splitText(a, b []int) string {
	return plainText(a) + " and " + plainText(b)
}

func TestPutMarked(t *testing.T) {
	back := map[string]impl.Marked{}
	for _, m := range everyMarked() {
		back[splitText(plainSplitMarked(m))] = m
	}
	wantNumber(t, "marked parts by both of them", len(back), total(manyMarked[:maxSum+1]))
	for _, a := range everyParts(maxSum) {
		for _, b := range everyParts(maxSum) {
			want, wantOK := back[splitText(a, b)]
			got, ok := impl.PutMarked(a, b)
			if ok != wantOK || !sameMarked(got, want) {
				t.Fatalf("PutMarked(%v, %v) = %v, %v, want %v, %v", a, b, got, ok, want, wantOK)
			}
		}
	}
}

func TestPutMarkedOfWrongNumbers(t *testing.T) {
	withWrong(func(p, q []int) {
		got, ok := impl.PutMarked(p, q)
		if ok || !sameMarked(got, impl.Marked{}) {
			t.Errorf("PutMarked(%s, %s) = %v, %v", brief(p), brief(q), got, ok)
		}
	})
	for _, c := range [][2]string{{"1+1", ""}, {"2+2", "1"}, {"3+2+2", "3"}, {"16", "1"}, {"1", "16"}, {"8", "9"}, {"8", "8+1"}, {"16", "16"}, {"6+5+4", "1+1"}, {"0", "1"}, {"1", "0"}} {
		got, ok := impl.PutMarked(numbersOf(t, c[0]), numbersOf(t, c[1]))
		if ok || !sameMarked(got, impl.Marked{}) {
			t.Errorf("PutMarked(%s, %s) = %v, %v", c[0], c[1], got, ok)
		}
	}
}

// wantPile checks all that is told of rows that may be a pile or not.
func wantPile(t *testing.T, rows [][]int, isPile bool) {
	t.Helper()
	sum, isEven := -1, false
	var turned, layers [][]int
	if isPile {
		sum, turned, layers = total(slices.Concat(rows...)), plainTurnPile(rows), plainLayers(rows)
		isEven = sameRows(turned, rows)
	}
	if got := impl.ValidPile(rows); got != isPile {
		t.Fatalf("ValidPile(%s) = %v", briefRows(rows), got)
	}
	if got := impl.PileSum(rows); got != sum {
		t.Fatalf("PileSum(%s) = %d, want %d", briefRows(rows), got, sum)
	}
	if got := impl.TurnPile(rows); !sameRows(got, turned) {
		t.Fatalf("TurnPile(%s) = %v, want %v", briefRows(rows), got, turned)
	}
	if got := impl.LayersOf(rows); !sameRows(got, layers) {
		t.Fatalf("LayersOf(%s) = %v, want %v", briefRows(rows), got, layers)
	}
	if got := impl.IsEvenPile(rows); got != isEven {
		t.Fatalf("IsEvenPile(%s) = %v", briefRows(rows), got)
	}
}

func TestPilesAndRows(t *testing.T) {
	for _, rows := range everyPile(maxSum) {
		wantPile(t, rows, true)
	}
	wantPile(t, [][]int{}, true)
	check := func(rows [][]int) {
		wantPile(t, rows, isPilePlainly(rows))
	}
	everyRows(smallLists(3, 0, 2), 3, check)
	everyRows(smallLists(3, -1, 4), 2, check)
	everyRows(smallLists(1, 0, maxSum+1), 3, check)
	for _, p := range everyParts(maxSum) {
		check([][]int{p})
		check([][]int{{8, 4, 2}, p})
		check([][]int{p, {4, 2}})
	}
	for _, rows := range wrongRows {
		wantPile(t, rows, false)
	}
}

// TestPilesByText has piles of no rows, of one row and of one number among others.
func TestPilesByText(t *testing.T) {
	for _, c := range []struct {
		rows, turned, layers string
		isEven               bool
	}{
		{"", "", "", true}, {"1", "1", "1", true}, {"3", "3", "1/1/1", true}, {"16", "16", "1/1/1/1/1/1/1/1/1/1/1/1/1/1/1/1", true}, {"1+1+1", "1/1/1", "3", false}, {"1/1/1", "1+1+1", "1+1+1", false}, {"2+1", "2/1", "2/1", false},
		{"2/1", "2+1", "1+1/1", false}, {"3+1/2", "3+2/1", "2+1/1+1/1", false}, {"2+1/1", "2+1/1", "2+1/1", true}, {"3+2+1/2+1/1", "3+2+1/2+1/1", "3+2+1/2+1/1", true}, {"4+4/4+4", "4+4/4+4", "2+2/2+2/2+2/2+2", true},
		{"4+2/2", "4+2/2", "2+1/2+1/1/1", true}, {"3+3+1/2+1", "3+2/3+1/1", "3+2/2+1/2", false}, {"1+1+1+1+1+1+1+1+1+1+1+1+1+1+1+1", "1/1/1/1/1/1/1/1/1/1/1/1/1/1/1/1", "16", false}, {"8/8", "8+8", "1+1/1+1/1+1/1+1/1+1/1+1/1+1/1+1", false},
	} {
		rows := rowsOf(t, c.rows)
		wantRows(t, fmt.Sprintf("TurnPile(%s)", c.rows), impl.TurnPile(rows), rowsOf(t, c.turned))
		wantRows(t, fmt.Sprintf("LayersOf(%s)", c.rows), impl.LayersOf(rows), rowsOf(t, c.layers))
		wantTruth(t, fmt.Sprintf("IsEvenPile(%s)", c.rows), impl.IsEvenPile(rows), c.isEven)
		wantPile(t, rows, true)
	}
}

func wantAllPiles(t *testing.T, n int, want [][][]int) {
	t.Helper()
	if all := impl.AllPiles(n); !slices.EqualFunc(all, want, sameRows) {
		t.Errorf("AllPiles(%d) = %v, want %v", n, all, want)
	}
}

func TestAllPiles(t *testing.T) {
	for n := range maxPile + 1 {
		wantAllPiles(t, n, pilesBySum[n])
	}
	for _, n := range append(wrongSums(maxPile), maxMarked, maxList, maxSum, maxSum+1) {
		wantAllPiles(t, n, nil)
	}
	wantAllPiles(t, 0, [][][]int{nil})
	for k, texts := range []string{"1", "2 1+1 1/1", "3 2+1 1+1+1 2/1 1+1/1 1/1/1", "4 3+1 2+2 2+1+1 1+1+1+1 3/1 2+1/1 1+1+1/1 2/2 2/1/1 1+1/1+1 1+1/1/1 1/1/1/1"} {
		var want [][][]int
		for _, s := range strings.Fields(texts) {
			want = append(want, rowsOf(t, s))
		}
		wantAllPiles(t, k+1, want)
	}
}

func TestCountPiles(t *testing.T) {
	for n, want := range manyPiles {
		wantNumber(t, fmt.Sprintf("CountPiles(%d)", n), impl.CountPiles(n), want)
	}
	for _, n := range append(wrongSums(maxSum), maxCount, maxCount+1) {
		wantNumber(t, fmt.Sprintf("CountPiles(%d)", n), impl.CountPiles(n), -1)
	}
}

// everyTallBox calls f with the sides and the height of all boxes.
func everyTallBox(f func(a, b, c int)) {
	everyBox(func(a, b int) {
		for c := range maxSide + 1 {
			f(a, b, c)
		}
	})
}

func TestBoxPiles(t *testing.T) {
	everyTallBox(func(a, b, c int) {
		want := plainBoxPiles(a, slices.Repeat([]int{c}, b), partsIn(b, c))
		wantNumber(t, fmt.Sprintf("BoxPiles(%d, %d, %d)", a, b, c), impl.BoxPiles(a, b, c), want)
	})
	for _, c := range []struct{ a, b, c, want int }{
		{0, 0, 0, 1}, {0, 4, 4, 1}, {4, 0, 4, 1}, {4, 4, 0, 1}, {1, 1, 0, 1}, {1, 1, 1, 2}, {1, 1, 4, 5}, {1, 4, 1, 5}, {4, 1, 1, 5}, {2, 2, 1, 6}, {2, 2, 2, 20}, {1, 2, 3, 10}, {3, 3, 3, 980}, {4, 4, 1, 70}, {4, 4, 2, 1764}, {4, 4, 4, 232848},
	} {
		wantNumber(t, fmt.Sprintf("BoxPiles(%d, %d, %d)", c.a, c.b, c.c), impl.BoxPiles(c.a, c.b, c.c), c.want)
	}
}

func TestBoxPilesOfWrongSides(t *testing.T) {
	for _, wrong := range append(wrongSums(maxSide), 16, 64) {
		everyBox(func(a, b int) {
			for _, c := range [][3]int{{wrong, a, b}, {a, wrong, b}, {a, b, wrong}, {wrong, wrong, a}, {a, wrong, wrong}, {wrong, a, wrong}, {wrong, wrong, wrong}} {
				wantNumber(t, fmt.Sprintf("BoxPiles(%d, %d, %d)", c[0], c[1], c[2]), impl.BoxPiles(c[0], c[1], c[2]), -1)
			}
		})
	}
	wantNumber(t, "BoxPiles of extremes", impl.BoxPiles(math.MinInt, math.MaxInt, 0), -1)
}

func wantDesk(t *testing.T, lines []string, want string) {
	t.Helper()
	if out := impl.RunDesk(lines); out != want {
		t.Errorf("RunDesk(%.300q) = %.300q, want %.300q", lines, out, want)
	}
}

// wantAnswers checks lines one by one, and as many of them together as a desk takes.
func wantAnswers(t *testing.T, lines []string) {
	t.Helper()
	for _, line := range lines {
		wantDesk(t, []string{line}, plainAnswer(line)+"\n")
	}
	for some := range slices.Chunk(lines, maxDesk) {
		wantDesk(t, some, plainAnswers(some))
	}
}

func TestRunDesk(t *testing.T) {
	var lines []string
	for _, p := range everyParts(maxSum) {
		for _, word := range deskWords {
			lines = append(lines, word+" "+plainText(p))
		}
	}
	wantAnswers(t, lines)
	wantAnswers(t, oddLines)
}

func TestRunDeskByText(t *testing.T) {
	for _, c := range [][2]string{
		{"place ", "0"}, {"place 4+2+1", "5"}, {"durfee ", "0"}, {"durfee 3+3+3", "3"}, {"orders ", "1"}, {"orders 3+2+1", "6"}, {"rank ", "0"}, {"rank 5+1", "3"}, {"rank 1+1+1+1", "-3"}, {"crank ", "0"}, {"crank 3+1+1", "-1"}, {"crank 4+2", "4"},
		{"conjugate ", ""}, {"conjugate 5+2+2", "3+3+1+1+1"}, {"merge ", ""}, {"merge 1+1+1+1", "4"}, {"merge 3+2", "none"}, {"split ", ""}, {"split 6+4", "3+3+1+1+1+1"}, {"split 2+2", "none"}, {"franklin ", "none"}, {"franklin 2", "none"}, {"franklin 3", "2+1"}, {"franklin 2+1", "3"},
		{"place 1+2", "wrong"}, {"rank 17", "wrong"}, {"crank x", "wrong"}, {"conjugate 01", "wrong"}, {"merge +", "wrong"}, {"franklin 3\n", "wrong"}, {"", "what"}, {" ", "what"}, {"place", "what"}, {"4+2+1", "what"}, {" 4+2+1", "what"}, {" place 4+2+1", "what"},
		{"place 4+2+1 ", "what"}, {"place  4+2+1", "what"}, {"place 4 +2+1", "what"}, {"place  ", "what"}, {"place\t1", "what"}, {"Place 1", "what"}, {"sum 1", "what"}, {"rank what what", "what"}, {"none 1", "what"},
	} {
		wantDesk(t, []string{c[0]}, c[1]+"\n")
	}
}

func TestRunDeskOfManyLines(t *testing.T) {
	wantDesk(t, nil, "")
	wantDesk(t, []string{}, "")
	for many := range maxDesk + 1 {
		wantDesk(t, make([]string, many), strings.Repeat("what\n", many))
		wantDesk(t, slices.Repeat([]string{"merge 3+3"}, many), strings.Repeat("6\n", many))
	}
	for _, many := range []int{maxDesk + 1, maxDesk + 2, 2 * maxDesk, 257, 1 << 16} {
		wantDesk(t, make([]string, many), "")
		wantDesk(t, slices.Repeat([]string{"rank 2+1"}, many), "")
	}
	wantDesk(t, []string{strings.Repeat("rank 1\n", maxDesk+1)}, "what\n")
}
