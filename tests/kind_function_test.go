package tests

import (
	"fmt"
	"math"
	"slices"
	"strings"
	"testing"

	"loop.example/numberparts/impl"
)

func TestIsKind(t *testing.T) {
	for _, name := range kindNames {
		for _, p := range everyParts(maxSum) {
			if got := impl.IsKind(name, p); got != isKindPlainly(name, p) {
				t.Errorf("IsKind(%q, %v) = %v", name, p, got)
			}
		}
		if !impl.IsKind(name, nil) || !impl.IsKind(name, []int{}) {
			t.Errorf("no parts are not %q", name)
		}
		for _, p := range wrongNumbers {
			if impl.IsKind(name, p) {
				t.Errorf("IsKind(%q, %.100v) = true", name, fmt.Sprint(p))
			}
		}
	}
}

// TestIsKindByText has what each kind tells apart written out, so that it does not lean on the plain functions.
func TestIsKindByText(t *testing.T) {
	for _, c := range []struct{ name, are, areNot string }{
		{"odd", "1 3 15 5+5+3 1+1+1", "2 16 3+2 4+3 5+4+1"},
		{"distinct", "1 16 2+1 9+7 5+4+3+2+1", "1+1 8+8 3+2+2 3+3+1"},
		{"self", "1 2+1 2+2 3+1+1 4+4+4+4 8+1+1+1+1+1+1+1", "2 1+1 3+2 3+2+2 4+1+1 8+8 16"},
		{"distinctodd", "1 3 15+1 9+7 7+5+3+1", "2 1+1 3+2 5+5 4+3+1"},
		{"notthree", "1 2 16 4+2+2 1+1+1 8+8", "3 6 9 12 15 4+3 3+1 6+5+5"},
		{"twice", "1 1+1 2+2+1+1 8+8 3+3", "1+1+1 2+1+1+1 2+2+2 5+3+3+3 4+4+4+4"},
		{"gap", "1 16 3+1 9+7 7+5+3+1 4+2", "1+1 2+1 5+4 5+3+2 8+8"},
		{"five", "1 4 6 9 11 14 16 4+4+1 6+6+4 1+1", "2 3 5 7 8 10 12 13 15 4+3 2+1 5+1"},
		{"gapone", "2 3 16 4+2 9+7 6+4+2", "1 3+1 7+5+3+1 3+2 2+2 8+8"},
		{"fivetwo", "2 3 7 8 12 13 3+2+2 8+8", "1 4 5 6 9 10 11 14 15 16 3+1 2+1 5+3"},
		{"schur", "1 3 6 12 4+1 5+2 7+3 6+2 7+4+1 10+6 9+5+2 8+5+2", "2+1 3+1 1+1 6+3 9+6 12+3+1 8+8 6+4 5+3 9+6+1 3+3"},
		{"six", "1 5 7 11 13 5+5+1 11+5 7+7+1 1+1", "2 3 4 6 8 9 10 12 14 15 16 5+2 3+1"},
	} {
		for _, s := range strings.Fields(c.are) {
			p, ok := impl.ParseParts(s)
			if !ok || !impl.IsKind(c.name, p) {
				t.Errorf("IsKind(%q, %s) = false, or no parts", c.name, s)
			}
		}
		for _, s := range strings.Fields(c.areNot) {
			if p, ok := impl.ParseParts(s); !ok || impl.IsKind(c.name, p) {
				t.Errorf("IsKind(%q, %s) = true, or no parts", c.name, s)
			}
		}
	}
}

func TestWrongNames(t *testing.T) {
	for _, name := range wrongNames {
		for _, p := range slices.Concat(everyParts(6), wrongNumbers) {
			if impl.IsKind(name, p) {
				t.Errorf("IsKind(%q, %.100v) = true", name, fmt.Sprint(p))
			}
		}
		for _, n := range append(wrongSums(maxList), 0, 1, 5, maxList) {
			if list := impl.KindParts(name, n); len(list) != 0 {
				t.Errorf("KindParts(%q, %d) = %v", name, n, list)
			}
			wantNumber(t, fmt.Sprintf("KindCount(%q, %d)", name, n), impl.KindCount(name, n), -1)
		}
		if got := impl.PartnerOf(name); got != "" {
			t.Errorf("PartnerOf(%q) = %q", name, got)
		}
	}
}

func TestKindParts(t *testing.T) {
	for _, name := range kindNames {
		for n := 0; n <= maxList; n++ {
			if got := impl.KindParts(name, n); !sameRows(got, plainKind(name, n)) {
				t.Errorf("KindParts(%q, %d) = %v", name, n, got)
			}
		}
		if got := impl.KindParts(name, 0); len(got) != 1 || len(got[0]) != 0 {
			t.Errorf("KindParts(%q, 0) = %v", name, got)
		}
		for _, n := range wrongSums(maxList) {
			if got := impl.KindParts(name, n); len(got) != 0 {
				t.Errorf("KindParts(%q, %d) = %v", name, n, got)
			}
		}
	}
	if got := strings.Join(textsOf(impl.KindParts("schur", 10)), " "); got != "10 9+1 8+2 7+3" {
		t.Errorf("KindParts of schur and 10 = %s", got)
	}
	if got := strings.Join(textsOf(impl.KindParts("self", 12)), " "); got != "6+2+1+1+1+1 5+3+2+1+1 4+4+2+2" {
		t.Errorf("KindParts of self and 12 = %s", got)
	}
	if got := impl.KindParts("gapone", 1); len(got) != 0 {
		t.Errorf("KindParts of gapone and 1 = %v", got)
	}
}

func TestKindCount(t *testing.T) {
	for _, name := range kindNames {
		for n := 0; n <= maxList; n++ {
			wantNumber(t, fmt.Sprintf("KindCount(%q, %d)", name, n), impl.KindCount(name, n), len(plainKind(name, n)))
		}
		wantNumber(t, fmt.Sprintf("KindCount(%q, 0)", name), impl.KindCount(name, 0), 1)
		for _, n := range wrongSums(maxList) {
			wantNumber(t, fmt.Sprintf("KindCount(%q, %d)", name, n), impl.KindCount(name, n), -1)
		}
	}
	wantNumber(t, "KindCount of gapone and 1", impl.KindCount("gapone", 1), 0)
	wantNumber(t, "KindCount of self and 2", impl.KindCount("self", 2), 0)
	wantNumber(t, "KindCount of odd and 12", impl.KindCount("odd", 12), 15)
}

func TestPartnerOf(t *testing.T) {
	for _, pair := range [][2]string{{"odd", "distinct"}, {"self", "distinctodd"}, {"notthree", "twice"}, {"gap", "five"}, {"gapone", "fivetwo"}, {"schur", "six"}} {
		if got := impl.PartnerOf(pair[0]); got != pair[1] {
			t.Errorf("PartnerOf(%q) = %q", pair[0], got)
		}
		if got := impl.PartnerOf(pair[1]); got != pair[0] {
			t.Errorf("PartnerOf(%q) = %q", pair[1], got)
		}
	}
}

func TestAtMostPartsAndJustParts(t *testing.T) {
	for n := 0; n <= maxCount; n++ {
		for k := 0; k <= maxCount; k++ {
			wantNumber(t, fmt.Sprintf("AtMostParts(%d, %d)", n, k), impl.AtMostParts(n, k), censusBySum[n].atMost(k))
			wantNumber(t, fmt.Sprintf("JustParts(%d, %d)", n, k), impl.JustParts(n, k), censusBySum[n].byLength[k])
		}
	}
	for _, wrong := range wrongSums(maxCount) {
		for _, n := range append(wrongSums(maxCount), 0, 1, 7, maxCount) {
			wantNumber(t, fmt.Sprintf("AtMostParts(%d, %d)", wrong, n), impl.AtMostParts(wrong, n), -1)
			wantNumber(t, fmt.Sprintf("AtMostParts(%d, %d)", n, wrong), impl.AtMostParts(n, wrong), -1)
			wantNumber(t, fmt.Sprintf("JustParts(%d, %d)", wrong, n), impl.JustParts(wrong, n), -1)
			wantNumber(t, fmt.Sprintf("JustParts(%d, %d)", n, wrong), impl.JustParts(n, wrong), -1)
		}
	}
}

func TestAtMostPartsOfNone(t *testing.T) {
	for k := 0; k <= maxCount; k++ {
		wantNumber(t, fmt.Sprintf("AtMostParts(0, %d)", k), impl.AtMostParts(0, k), 1)
	}
	wantNumber(t, "JustParts(0, 0)", impl.JustParts(0, 0), 1)
	wantNumber(t, "AtMostParts(40, 40)", impl.AtMostParts(40, 40), 37338)
	wantNumber(t, "JustParts(40, 40)", impl.JustParts(40, 40), 1)
	for k := 1; k <= maxCount; k++ {
		wantNumber(t, fmt.Sprintf("JustParts(0, %d)", k), impl.JustParts(0, k), 0)
		wantNumber(t, fmt.Sprintf("AtMostParts(%d, 0)", k), impl.AtMostParts(k, 0), 0)
		wantNumber(t, fmt.Sprintf("JustParts(%d, 0)", k), impl.JustParts(k, 0), 0)
	}
}

func TestCountInAndCountOnce(t *testing.T) {
	for _, set := range smallSets(8) {
		for n := 0; n <= 24; n++ {
			wantNumber(t, fmt.Sprintf("CountIn(%v, %d)", set, n), impl.CountIn(set, n), plainCountOver(set, n, n))
			wantNumber(t, fmt.Sprintf("CountOnce(%v, %d)", set, n), impl.CountOnce(set, n), plainCountOver(set, n, 1))
		}
	}
	for _, set := range largeSets {
		for _, n := range []int{0, 1, 2, 12, 13, 16, 17, 26, 27, 39, 40} {
			wantNumber(t, fmt.Sprintf("CountIn(%v, %d)", set, n), impl.CountIn(set, n), plainCountOver(set, n, n))
			wantNumber(t, fmt.Sprintf("CountOnce(%v, %d)", set, n), impl.CountOnce(set, n), plainCountOver(set, n, 1))
		}
	}
}

func TestCountInAndCountOnceOfNothing(t *testing.T) {
	for _, set := range [][]int{nil, {}} {
		wantNumber(t, "CountIn nothing of 0", impl.CountIn(set, 0), 1)
		wantNumber(t, "CountOnce nothing of 0", impl.CountOnce(set, 0), 1)
		for n := 1; n <= maxCount; n++ {
			wantNumber(t, fmt.Sprintf("CountIn nothing of %d", n), impl.CountIn(set, n), 0)
			wantNumber(t, fmt.Sprintf("CountOnce nothing of %d", n), impl.CountOnce(set, n), 0)
		}
	}
	for _, set := range largeSets {
		wantNumber(t, fmt.Sprintf("CountIn(%v, 0)", set), impl.CountIn(set, 0), 1)
		wantNumber(t, fmt.Sprintf("CountOnce(%v, 0)", set), impl.CountOnce(set, 0), 1)
	}
}

func TestCountInAndCountOnceOfWrongArguments(t *testing.T) {
	for _, set := range wrongSets {
		for _, n := range append(wrongSums(maxCount), 0, 1, 4, maxCount) {
			wantNumber(t, fmt.Sprintf("CountIn(%.100v, %d)", fmt.Sprint(set), n), impl.CountIn(set, n), -1)
			wantNumber(t, fmt.Sprintf("CountOnce(%.100v, %d)", fmt.Sprint(set), n), impl.CountOnce(set, n), -1)
		}
	}
	for _, set := range largeSets {
		for _, n := range wrongSums(maxCount) {
			wantNumber(t, fmt.Sprintf("CountIn(%v, %d)", set, n), impl.CountIn(set, n), -1)
			wantNumber(t, fmt.Sprintf("CountOnce(%v, %d)", set, n), impl.CountOnce(set, n), -1)
		}
	}
}

func TestDivisorSum(t *testing.T) {
	sums := []int{
		1, 3, 4, 7, 6, 12, 8, 15, 13, 18, 12, 28, 14, 24, 24, 31, 18, 39, 20, 42,
		32, 36, 24, 60, 31, 42, 40, 56, 30, 72, 32, 63, 48, 54, 48, 91, 38, 60, 56, 90,
	}
	for i, sum := range sums {
		wantNumber(t, fmt.Sprintf("DivisorSum(%d)", i+1), impl.DivisorSum(i+1), sum)
	}
	for _, n := range append(wrongSums(maxCount), 0) {
		wantNumber(t, fmt.Sprintf("DivisorSum(%d)", n), impl.DivisorSum(n), -1)
	}
}

func TestPentagonal(t *testing.T) {
	wantNumber(t, "Pentagonal(0)", impl.Pentagonal(0), 0)
	up, down := 0, 0
	for k := 1; k <= maxPentagonal; k++ {
		up += 3*k - 2
		down += 3*k - 1
		wantNumber(t, fmt.Sprintf("Pentagonal(%d)", k), impl.Pentagonal(k), up)
		wantNumber(t, fmt.Sprintf("Pentagonal(%d)", -k), impl.Pentagonal(-k), down)
	}
	wantNumber(t, "Pentagonal(100)", impl.Pentagonal(100), 14950)
	wantNumber(t, "Pentagonal(-100)", impl.Pentagonal(-100), 15050)
	for _, k := range []int{101, -101, 102, -102, 200, 1 << 32, -1 << 32, 1<<32 + 1, 1 << 62, -1 << 62, math.MaxInt, math.MinInt, math.MinInt + 1} {
		wantNumber(t, fmt.Sprintf("Pentagonal(%d)", k), impl.Pentagonal(k), -1)
	}
}

func TestSignedDistinct(t *testing.T) {
	signs := map[int]int{0: 1, 1: -1, 2: -1, 5: 1, 7: 1, 12: -1, 15: -1, 22: 1, 26: 1, 35: -1, 40: -1}
	for n := 0; n <= maxCount; n++ {
		wantNumber(t, fmt.Sprintf("SignedDistinct(%d)", n), impl.SignedDistinct(n), censusBySum[n].signed)
		wantNumber(t, fmt.Sprintf("SignedDistinct(%d)", n), impl.SignedDistinct(n), signs[n])
	}
	for _, n := range wrongSums(maxCount) {
		wantNumber(t, fmt.Sprintf("SignedDistinct(%d)", n), impl.SignedDistinct(n), 0)
	}
}

func TestSquareSum(t *testing.T) {
	for n := 0; n <= maxCount; n++ {
		sum := 0
		for k := 0; k <= n; k++ {
			if k*k <= n {
				sum += censusBySum[n-k*k].atMost(k)
			}
		}
		wantNumber(t, fmt.Sprintf("SquareSum(%d)", n), impl.SquareSum(n), sum)
	}
	for n, want := range []int{1, 1, 1, 1, 2, 2, 3, 3, 4, 5, 6, 7, 9, 10, 12, 14, 17} {
		wantNumber(t, fmt.Sprintf("SquareSum(%d)", n), impl.SquareSum(n), want)
	}
	for _, n := range wrongSums(maxCount) {
		wantNumber(t, fmt.Sprintf("SquareSum(%d)", n), impl.SquareSum(n), -1)
	}
}

func TestSelfCount(t *testing.T) {
	for n := 0; n <= maxCount; n++ {
		wantNumber(t, fmt.Sprintf("SelfCount(%d)", n), impl.SelfCount(n), censusBySum[n].self)
	}
	for n, want := range []int{1, 1, 0, 1, 1, 1, 1, 1, 2, 2, 2, 2, 3, 3, 3, 4, 5} {
		wantNumber(t, fmt.Sprintf("SelfCount(%d)", n), impl.SelfCount(n), want)
	}
	for _, n := range wrongSums(maxCount) {
		wantNumber(t, fmt.Sprintf("SelfCount(%d)", n), impl.SelfCount(n), -1)
	}
}
