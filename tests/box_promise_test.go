package tests

import (
	"fmt"
	"slices"
	"strings"
	"testing"

	"loop.example/numberparts/impl"
)

func TestPromise58BoxesTurnWithConjugates(t *testing.T) {
	everyBox(func(a, b int) {
		for _, p := range everyParts(maxSum) {
			got := impl.InBox(p, a, b)
			wantTruth(t, fmt.Sprintf("InBox(%v, %d, %d)", p, a, b), got, isInPlainly(p, a, b))
			wantTruth(t, fmt.Sprintf("InBox of the conjugate of %v, %d and %d", p, b, a), impl.InBox(impl.ConjugateOf(p), b, a), got)
		}
	})
}

// choices returns how many sets of k numbers there are among n.
func choices(n, k int) int {
	if k == 0 || k == n {
		return 1
	}
	return choices(n-1, k-1) + choices(n-1, k)
}

func TestPromise59BoxesAreTheSameFromBothEnds(t *testing.T) {
	everyBox(func(a, b int) {
		what := fmt.Sprintf("BoxRow(%d, %d)", a, b)
		row := impl.BoxRow(a, b)
		wantNumber(t, "numbers of "+what, len(row), a*b+1)
		wantList(t, what+" turned", turned(row), row)
		wantList(t, what+" with both sides exchanged", impl.BoxRow(b, a), row)
		wantNumber(t, what+" together", total(row), choices(a+b, a))
	})
}

func TestPromise60AllPartsInABoxAreCounted(t *testing.T) {
	everyBox(func(a, b int) {
		list := impl.BoxParts(a, b)
		row := make([]int, a*b+1)
		for _, p := range list {
			if !impl.InBox(p, a, b) {
				t.Fatalf("BoxParts(%d, %d) has %v", a, b, p)
			}
			row[total(p)]++
		}
		wantList(t, fmt.Sprintf("BoxRow(%d, %d)", a, b), impl.BoxRow(a, b), row)
		wantRows(t, fmt.Sprintf("BoxParts(%d, %d)", a, b), list, partsIn(a, b))
	})
}

func TestPromise61OppositesFillTheBox(t *testing.T) {
	everyInBox(func(p []int, a, b int) {
		what := fmt.Sprintf("OppositeIn(%v, %d, %d)", p, a, b)
		q := opposite(t, p, a, b)
		wantList(t, what+" twice", opposite(t, q, a, b), p)
		wantNumber(t, what+" and the parts together", total(p)+total(q), a*b)
	})
}

func TestPromise62StepsAreReadBack(t *testing.T) {
	everyInBox(func(p []int, a, b int) {
		path := impl.PathOf(p, a, b)
		wantNumber(t, fmt.Sprintf("length of PathOf(%v, %d, %d)", p, a, b), len(path), a+b)
		wantPath(t, path, p, a, b, true)
	})
}

func TestPromise63StepsAreWrittenBack(t *testing.T) {
	read := 0
	everyText("en", 2*maxSide+1, func(s string) {
		rows, columns := strings.Count(s, "n"), strings.Count(s, "e")
		p, a, b, ok := impl.PartsOfPath(s)
		wantTruth(t, fmt.Sprintf("whether there is PartsOfPath(%q)", s), ok, rows <= maxSide && columns <= maxSide)
		if !ok {
			return
		}
		read++
		if a != rows || b != columns {
			t.Errorf("PartsOfPath(%q) has the sides %d and %d", s, a, b)
		}
		if again := impl.PathOf(p, a, b); again != s {
			t.Errorf("PathOf PartsOfPath(%q) = %q", s, again)
		}
	})
	wantNumber(t, "texts that are read", read, choices(2*maxSide+2, maxSide+1)-1)
}

func TestPromise64SummandsCanBeCut(t *testing.T) {
	for _, c := range everySums(maxSum) {
		if !impl.ValidSums(c) || len(c) > 0 && !impl.ValidSums(c[:len(c)-1]) {
			t.Fatalf("%v are no summands, or without the last one", c)
		}
		p := impl.PartsOfSums(c)
		if !impl.ValidParts(p) || !impl.ValidSums(p) || impl.SumOf(p) != total(c) || len(p) != len(c) {
			t.Fatalf("PartsOfSums(%v) = %v", c, p)
		}
	}
}

func TestPromise65BitsAreReadBack(t *testing.T) {
	for n, list := range sumsByMask {
		for _, c := range list {
			again, ok := impl.SumsOfMask(n, impl.MaskOf(c))
			if !ok || !slices.Equal(again, c) {
				t.Fatalf("SumsOfMask of %d and MaskOf(%v) = %v, %v", n, c, again, ok)
			}
		}
	}
}

func TestPromise66BitsAreWrittenBack(t *testing.T) {
	for n, list := range sumsByMask {
		read := 0
		for mask := range 2 * len(list) {
			c, ok := impl.SumsOfMask(n, mask)
			if !ok {
				continue
			}
			read++
			if total(c) != n || impl.MaskOf(c) != mask {
				t.Fatalf("SumsOfMask(%d, %d) = %v, whose MaskOf is %d", n, mask, c, impl.MaskOf(c))
			}
		}
		wantNumber(t, fmt.Sprintf("masks of summands with the sum %d", n), read, len(list))
	}
}

func TestPromise67AllSummandsAreToldOnce(t *testing.T) {
	for n := range maxSums + 1 {
		all := impl.AllSums(n)
		bits := max(0, n-1)
		wantNumber(t, fmt.Sprintf("AllSums(%d)", n), len(all), 1<<bits)
		for mask, c := range all {
			wantNumber(t, fmt.Sprintf("MaskOf(%v)", c), impl.MaskOf(c), mask)
			wantNumber(t, fmt.Sprintf("sum of %v", c), total(c), n)
		}
	}
}

func TestPromise68OppositeSummandsEndWhereOthersDoNot(t *testing.T) {
	for _, c := range everySums(maxSum) {
		q := impl.OppositeSums(c)
		wantSame(t, "OppositeSums twice", c, impl.OppositeSums(q), c)
		// Of no summands both are none, and with that not one more than the sum.
		if n := total(c); n > 0 && (total(q) != n || len(c)+len(q) != n+1) {
			t.Fatalf("OppositeSums(%v) = %v", c, q)
		}
		ends := endsOf(q)
		for _, end := range endsOf(c) {
			if slices.Contains(ends, end) != (end == total(c)) {
				t.Fatalf("OppositeSums(%v) = %v, and of both some end at %d", c, q, end)
			}
		}
	}
}

func TestPromise69SummandsInAnyOrderHaveTheSameParts(t *testing.T) {
	for _, c := range everySums(maxSum) {
		p := impl.PartsOfSums(c)
		wantSame(t, "PartsOfSums", c, p, sorted(c))
		wantSame(t, "PartsOfSums turned", c, impl.PartsOfSums(impl.TurnSums(c)), p)
		wantSame(t, "PartsOfSums twice", c, impl.PartsOfSums(p), p)
	}
}

func TestPromise70OrdersAreCounted(t *testing.T) {
	for n := range maxSums + 1 {
		many := map[string]int{}
		for _, c := range impl.AllSums(n) {
			many[impl.PartsText(impl.PartsOfSums(c))]++
		}
		wantNumber(t, fmt.Sprintf("parts of AllSums(%d)", n), len(many), manyParts[n])
		for _, p := range partsBySum[n] {
			wantNumber(t, fmt.Sprintf("OrdersOf(%v)", p), impl.OrdersOf(p), many[plainText(p)])
		}
	}
	for n, list := range partsBySum {
		together := 0
		for _, p := range list {
			together += impl.OrdersOf(p)
		}
		wantNumber(t, fmt.Sprintf("OrdersOf of all parts of %d", n), together, len(sumsByMask[n]))
	}
}

func TestPromise71TurnedSummandsTurnWithOpposites(t *testing.T) {
	for _, c := range everySums(maxSum) {
		q := impl.TurnSums(c)
		wantSame(t, "TurnSums", c, q, turned(c))
		wantSame(t, "TurnSums twice", c, impl.TurnSums(q), c)
		wantSame(t, "OppositeSums of TurnSums", c, impl.OppositeSums(q), impl.TurnSums(impl.OppositeSums(c)))
	}
}

func TestPromise72NearAndFarLinksAreOpposite(t *testing.T) {
	opposites := func(c, d []int) {
		for _, near := range []bool{false, true} {
			linked := link(t, c, d, near)
			if total(linked) != total(c)+total(d) || len(c) > 0 && len(d) > 0 && (len(linked) < len(c)+len(d)) != near {
				t.Fatalf("LinkSums(%v, %v, %v) = %v", c, d, near, linked)
			}
			want := link(t, impl.OppositeSums(c), impl.OppositeSums(d), !near)
			if got := impl.OppositeSums(linked); !slices.Equal(got, want) {
				t.Fatalf("opposite of LinkSums(%v, %v, %v) = %v, want %v", c, d, near, got, want)
			}
		}
	}
	everyTwoSums(10, opposites)
	for n := range maxSum + 1 {
		someTwoSums(n, maxSum-n, opposites)
	}
}

func TestPromise73OppositesAreFinerTheOtherWayRound(t *testing.T) {
	finer := 0
	turnsRound := func(c, d []int) {
		got := impl.FinerSums(c, d)
		if got != isFinerPlainly(c, d) || got != impl.FinerSums(impl.OppositeSums(d), impl.OppositeSums(c)) {
			t.Fatalf("FinerSums(%v, %v) = %v, or not so of the opposites, exchanged", c, d, got)
		}
		if got && !impl.Refines(impl.PartsOfSums(c), impl.PartsOfSums(d)) {
			t.Fatalf("FinerSums(%v, %v), but not Refines of their parts", c, d)
		}
		if got {
			finer++
		}
	}
	want, pairs := 1, 1
	for n := range 10 {
		for _, c := range sumsByMask[n] {
			for _, d := range sumsByMask[n] {
				turnsRound(c, d)
			}
		}
		// At each place between, three of the four ways to end there or not are finer.
		if n > 0 {
			want += pairs
			pairs *= 3
		}
	}
	wantNumber(t, "pairs of which one is finer", finer, want)
	for n := range maxSum + 1 {
		someTwoSums(n, n, turnsRound)
	}
}
