package tests

import (
	"fmt"
	"slices"
	"strings"
	"testing"

	"loop.example/numberparts/impl"
)

func TestPromise74MarksCanBeTaken(t *testing.T) {
	for _, m := range everyMarked() {
		wantTruth(t, fmt.Sprintf("ValidMarked(%v)", m), impl.ValidMarked(m), true)
		marked, others := plainSplitMarked(m)
		wantMarked(t, fmt.Sprintf("PutMarked(%v, %v)", marked, others), put(t, marked, others), m)
		for i := range m.Marks {
			fewer := slices.Clone(m.Marks)
			fewer[i] = false
			wantTruth(t, fmt.Sprintf("ValidMarked(%v) without the mark %d", m, i), impl.ValidMarked(impl.Marked{Parts: m.Parts, Marks: fewer}), true)
		}
	}
}

func TestPromise75AllMarkedPartsAreToldOnce(t *testing.T) {
	for n := range maxMarked + 1 {
		all := impl.AllMarked(n)
		wantNumber(t, fmt.Sprintf("CountMarked(%d)", n), impl.CountMarked(n), len(all))
		told := map[string]bool{}
		for _, m := range all {
			told[fmt.Sprint(m)] = true
			if !impl.ValidMarked(m) || !isMarkedPlainly(m) || impl.SumOf(m.Parts) != n {
				t.Errorf("AllMarked(%d) has %v", n, m)
			}
		}
		wantNumber(t, fmt.Sprintf("different ones of AllMarked(%d)", n), len(told), len(all))
	}
	// Beyond the sums of which marked parts are listed there are as many as are valid.
	for n := maxMarked + 1; n <= maxSum; n++ {
		wantNumber(t, fmt.Sprintf("CountMarked(%d)", n), impl.CountMarked(n), len(markedBySum[n]))
	}
}

func TestPromise76MarkedPartsCancelAtSquares(t *testing.T) {
	for n := range maxCount + 1 {
		sum, sign := impl.CountMarked(n), -2
		for k := 1; k*k <= n; k++ {
			sum += sign * impl.CountMarked(n-k*k)
			sign = -sign
		}
		want := 0
		if n == 0 {
			want = 1
		}
		wantNumber(t, fmt.Sprintf("CountMarked of %d less squares, with signs", n), sum, want)
	}
}

func TestPromise77MarkedPartsAreDifferent(t *testing.T) {
	for _, m := range everyMarked() {
		a, b := impl.SplitMarked(m)
		if !impl.IsKind("distinct", a) || !impl.ValidParts(b) || total(a)+total(b) != total(m.Parts) {
			t.Fatalf("SplitMarked(%v) = %v, %v", m, a, b)
		}
		wantMarked(t, fmt.Sprintf("PutMarked of SplitMarked(%v)", m), put(t, a, b), m)
	}
}

func TestPromise78MarkedPartsAreSplitAgain(t *testing.T) {
	found := 0
	everyPair(func(a, b []int) {
		if !isKindPlainly("distinct", a) {
			return
		}
		found++
		m := put(t, a, b)
		wantList(t, fmt.Sprintf("Parts of PutMarked(%v, %v)", a, b), m.Parts, plainUnion(a, b))
		wantSplitMarked(t, m, a, b)
	})
	wantNumber(t, "pairs that are put together", found, total(manyMarked[:maxSum+1]))
}

// marksIn returns how many parts are marked.
func marksIn(m impl.Marked) int {
	marked, _ := plainSplitMarked(m)
	return len(marked)
}

func TestPromise79TurnedMarksTurnBack(t *testing.T) {
	for _, m := range everyMarked() {
		turned := impl.TurnMarked(m)
		if !impl.ValidMarked(turned) || !isMarkedPlainly(turned) {
			t.Fatalf("TurnMarked(%v) = %v is not valid", m, turned)
		}
		wantMarked(t, fmt.Sprintf("TurnMarked twice %v", m), impl.TurnMarked(turned), m)
		wantNumber(t, fmt.Sprintf("marks of TurnMarked(%v)", m), marksIn(turned), marksIn(m))
		wantList(t, fmt.Sprintf("Parts of TurnMarked(%v)", m), turned.Parts, impl.ConjugateOf(m.Parts))
	}
	wantMarked(t, "TurnMarked(4*+2+1)", impl.TurnMarked(markedOf(t, "4*+2+1")), markedOf(t, "3+2+1+1*"))
}

func TestPromise80PilesCanBeCut(t *testing.T) {
	for _, rows := range everyPile(maxSum) {
		for cut := range len(rows) + 1 {
			wantTruth(t, fmt.Sprintf("ValidPile(%v)", rows[:cut]), impl.ValidPile(rows[:cut]), true)
		}
		turned := impl.TurnPile(rows)
		if !impl.ValidPile(turned) || !isPilePlainly(turned) || len(rows) > 0 && len(turned) == 0 {
			t.Fatalf("TurnPile(%v) = %v is no pile", rows, turned)
		}
	}
}

func TestPromise81SumsOfPilesStay(t *testing.T) {
	for n, list := range pilesBySum {
		for _, rows := range list {
			wantNumber(t, fmt.Sprintf("PileSum(%v)", rows), impl.PileSum(rows), n)
			wantNumber(t, fmt.Sprintf("PileSum of TurnPile(%v)", rows), impl.PileSum(impl.TurnPile(rows)), n)
			wantNumber(t, fmt.Sprintf("PileSum of LayersOf(%v)", rows), impl.PileSum(impl.LayersOf(rows)), n)
		}
	}
}

func TestPromise82AllPilesAreToldOnce(t *testing.T) {
	for n := range maxPile + 1 {
		all := impl.AllPiles(n)
		wantNumber(t, fmt.Sprintf("CountPiles(%d)", n), impl.CountPiles(n), len(all))
		told := map[string]bool{}
		for _, rows := range all {
			told[fmt.Sprint(rows)] = true
			if !impl.ValidPile(rows) || !isPilePlainly(rows) || impl.PileSum(rows) != n {
				t.Errorf("AllPiles(%d) has %v", n, rows)
			}
		}
		wantNumber(t, fmt.Sprintf("different ones of AllPiles(%d)", n), len(told), len(all))
	}
	// Beyond the sums of which piles are listed there are as many as there are.
	for n := maxPile + 1; n <= maxSum; n++ {
		wantNumber(t, fmt.Sprintf("CountPiles(%d)", n), impl.CountPiles(n), len(pilesBySum[n]))
	}
}

func TestPromise83PilesOfOneRowAreParts(t *testing.T) {
	for n, list := range partsBySum {
		many := impl.CountPiles(n)
		if many < impl.CountParts(n) || n > 0 && many < impl.CountPiles(n-1) {
			t.Errorf("CountPiles(%d) = %d", n, many)
		}
		wantNumber(t, fmt.Sprintf("CountPiles(%d)", n), many, manyPiles[n])
		for _, p := range list {
			if len(p) > 0 {
				wantTruth(t, fmt.Sprintf("ValidPile of the row %v", p), impl.ValidPile([][]int{p}), true)
			}
		}
	}
}

func TestPromise84TurnedPilesTurnBack(t *testing.T) {
	for _, rows := range everyPile(maxSum) {
		turned := impl.TurnPile(rows)
		wantRows(t, fmt.Sprintf("TurnPile twice %v", rows), impl.TurnPile(turned), rows)
		if len(rows) > 0 {
			wantNumber(t, fmt.Sprintf("numbers of the first row of TurnPile(%v)", rows), len(turned[0]), len(rows))
		}
	}
	wantRows(t, "TurnPile(3+1/2)", impl.TurnPile(rowsOf(t, "3+1/2")), rowsOf(t, "3+2/1"))
}

func TestPromise85LayersOfLayersOfLayersAreThePile(t *testing.T) {
	for _, rows := range everyPile(maxSum) {
		layers := impl.LayersOf(rows)
		wantRows(t, fmt.Sprintf("LayersOf three times %v", rows), impl.LayersOf(impl.LayersOf(layers)), rows)
		wantNumber(t, fmt.Sprintf("layers of %v", rows), len(layers), greatest(slices.Concat(rows...)))
		for h, layer := range layers {
			if !impl.ValidParts(layer) || h > 0 && !impl.HasInside(layers[h-1], layer) {
				t.Fatalf("LayersOf(%v) = %v", rows, layers)
			}
		}
	}
	wantRows(t, "LayersOf(3+1/2)", impl.LayersOf(rowsOf(t, "3+1/2")), rowsOf(t, "2+1/1+1/1"))
}

// liesIn reports whether a pile has at most a rows, at most b numbers in each, and none greater than c.
func liesIn(rows [][]int, a, b, c int) bool {
	for _, row := range rows {
		if len(row) > b {
			return false
		}
	}
	return len(rows) <= a && greatest(slices.Concat(rows...)) <= c
}

func TestPromise86BoxesOfPilesAreTheSameFromAllSides(t *testing.T) {
	everyTallBox(func(a, b, c int) {
		many := impl.BoxPiles(a, b, c)
		for _, sides := range [][3]int{{a, c, b}, {b, a, c}, {b, c, a}, {c, a, b}, {c, b, a}} {
			wantNumber(t, fmt.Sprintf("BoxPiles%v, of which the first is %d, %d, %d", sides, a, b, c), impl.BoxPiles(sides[0], sides[1], sides[2]), many)
		}
		if c == 0 {
			wantNumber(t, fmt.Sprintf("BoxPiles(%d, %d, 0)", a, b), many, 1)
		}
		if c == 1 {
			wantNumber(t, fmt.Sprintf("BoxPiles(%d, %d, 1)", a, b), many, choices(a+b, a))
		}
		if a*b*c > maxSum {
			return
		}
		in := 0
		for n := range a*b*c + 1 {
			list := pilesBySum[n]
			if n <= maxPile {
				list = impl.AllPiles(n)
			}
			for _, rows := range list {
				in += truth(liesIn(rows, a, b, c))[0]
			}
		}
		wantNumber(t, fmt.Sprintf("BoxPiles(%d, %d, %d)", a, b, c), many, in)
	})
}

func TestPromise87PilesThatAreTheirTurnedOnesAreEven(t *testing.T) {
	even := make([]int, maxSum+1)
	for n, list := range pilesBySum {
		for _, rows := range list {
			got := impl.IsEvenPile(rows)
			wantTruth(t, fmt.Sprintf("IsEvenPile(%v)", rows), got, sameRows(impl.TurnPile(rows), rows))
			even[n] += truth(got)[0]
		}
	}
	wantList(t, "numbers of even piles", even, []int{1, 1, 1, 2, 3, 4, 6, 8, 12, 16, 22, 29, 41, 53, 71, 93, 125})
}

func TestPromise88EachLineHasAnAnswer(t *testing.T) {
	for i := range oddLines {
		lines := oddLines[i:min(i+i%(maxDesk+1), len(oddLines))]
		out := impl.RunDesk(lines)
		wantNumber(t, "newlines of RunDesk", strings.Count(out, "\n"), len(lines))
		if i%50 > 0 {
			continue
		}
		for first := range len(lines) + 1 {
			if begin := impl.RunDesk(lines[:first]); !strings.HasPrefix(out, begin) || strings.Count(begin, "\n") != first {
				t.Fatalf("RunDesk(%.300q) = %q, and of the first %d %q", lines, out, first, begin)
			}
		}
	}
	wantDesk(t, []string{"conjugate 4+2+1", "rank 2+1+1", "merge 2", "crank 1+2", "", "franklin "}, "3+2+1+1\n-1\nnone\nwrong\nwhat\nnone\n")
}
