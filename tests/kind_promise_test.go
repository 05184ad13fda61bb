package tests

import (
	"fmt"
	"slices"
	"testing"

	"loop.example/numberparts/impl"
)

func TestPromise4CountsCancelBySigns(t *testing.T) {
	for n := 0; n <= maxCount; n++ {
		sum := 0
		for k := 0; k <= n; k++ {
			sum += impl.SignedDistinct(k) * impl.CountParts(n-k)
		}
		want := 0
		if n == 0 {
			want = 1
		}
		wantNumber(t, fmt.Sprintf("sum of SignedDistinct and CountParts of %d", n), sum, want)
	}
}

// hasRow reports whether parts are among some.
func hasRow(list [][]int, p []int) bool {
	return slices.ContainsFunc(list, func(q []int) bool { return slices.Equal(p, q) })
}

func TestPromise22KindsAreLists(t *testing.T) {
	for _, name := range kindNames {
		for n := 0; n <= maxList; n++ {
			list := impl.KindParts(name, n)
			for _, p := range partsBySum[n] {
				if got := impl.IsKind(name, p); got != hasRow(list, p) || got != isKindPlainly(name, p) {
					t.Errorf("IsKind(%q, %v) = %v", name, p, got)
				}
			}
		}
	}
}

func TestPromise23KindsAreOfAllParts(t *testing.T) {
	for _, name := range kindNames {
		for n := 0; n <= maxList; n++ {
			all := impl.AllParts(n)
			for _, p := range impl.KindParts(name, n) {
				if !impl.IsKind(name, p) {
					t.Errorf("%v of KindParts(%q, %d) is not of the kind", p, name, n)
				}
				// Each one is looked for behind the one ahead of it.
				place := slices.IndexFunc(all, func(q []int) bool { return slices.Equal(p, q) })
				if place < 0 {
					t.Fatalf("%v of KindParts(%q, %d) is not among AllParts, or out of order", p, name, n)
				}
				all = all[place+1:]
			}
		}
	}
}

func TestPromise24PartnersAreAsMany(t *testing.T) {
	for _, name := range kindNames {
		partner := impl.PartnerOf(name)
		for n := 0; n <= maxList; n++ {
			many := impl.KindCount(name, n)
			wantNumber(t, fmt.Sprintf("KindCount(%q, %d)", partner, n), impl.KindCount(partner, n), many)
			wantNumber(t, fmt.Sprintf("KindCount(%q, %d)", name, n), many, len(impl.KindParts(name, n)))
		}
		// Beyond the sums of which parts are listed there are as many as well.
		for n := maxList + 1; n <= maxSum; n++ {
			balance := 0
			for _, p := range partsBySum[n] {
				balance += truth(impl.IsKind(name, p))[0] - truth(impl.IsKind(partner, p))[0]
			}
			wantNumber(t, fmt.Sprintf("%q less %q of %d", name, partner, n), balance, 0)
		}
	}
}

func TestPromise25PartnersArePartnersOfEachOther(t *testing.T) {
	for _, name := range kindNames {
		partner := impl.PartnerOf(name)
		if partner == name || !slices.Contains(kindNames, partner) || impl.PartnerOf(partner) != name {
			t.Errorf("PartnerOf(%q) = %q, whose partner is %q", name, partner, impl.PartnerOf(partner))
		}
	}
}

func TestPromise26AtMostSoManyPartsAreJustSoManyGreaterOnes(t *testing.T) {
	for n := 0; n <= maxCount; n++ {
		for k := 0; n+k <= maxCount; k++ {
			many := impl.AtMostParts(n, k)
			wantNumber(t, fmt.Sprintf("JustParts(%d, %d)", n+k, k), impl.JustParts(n+k, k), many)
			wantNumber(t, fmt.Sprintf("AtMostParts(%d, %d)", n, k), many, censusBySum[n].atMost(k))
		}
		for k := n; k <= maxCount; k++ {
			wantNumber(t, fmt.Sprintf("AtMostParts(%d, %d)", n, k), impl.AtMostParts(n, k), impl.CountParts(n))
		}
	}
}

func TestPromise27JustSoManyPartsHaveA1OrNot(t *testing.T) {
	wantNumber(t, "JustParts(0, 0)", impl.JustParts(0, 0), 1)
	for n := 1; n <= maxCount; n++ {
		for k := 1; k <= maxCount; k++ {
			want := impl.JustParts(n-1, k-1)
			if k <= n {
				want += impl.JustParts(n-k, k)
			}
			wantNumber(t, fmt.Sprintf("JustParts(%d, %d)", n, k), impl.JustParts(n, k), want)
		}
	}
}

// wantLastOneOrNot checks that the parts of each set are those without its last number, and those of what is left by it, of the set that left tells.
func wantLastOneOrNot(t *testing.T, what string, count func(set []int, n int) int, left func(set []int, fewer []int) []int) {
	t.Helper()
	for _, set := range slices.Concat(smallSets(7), largeSets) {
		if len(set) == 0 {
			continue
		}
		fewer, last := set[:len(set)-1], set[len(set)-1]
		for n := 0; n <= maxCount; n++ {
			want := count(fewer, n)
			if last <= n {
				want += count(left(set, fewer), n-last)
			}
			wantNumber(t, fmt.Sprintf("%s(%v, %d)", what, set, n), count(set, n), want)
		}
	}
}

func TestPromise28PartsOfASetHaveItsLastOneOrNot(t *testing.T) {
	wantLastOneOrNot(t, "CountIn", impl.CountIn, func(set []int, fewer []int) []int { return set })
	for n := 0; n <= maxCount; n++ {
		wantNumber(t, fmt.Sprintf("CountIn all numbers of %d", n), impl.CountIn(upTo(maxCount, 1), n), impl.CountParts(n))
	}
}

func TestPromise29DifferentPartsOfASetHaveItsLastOneOrNot(t *testing.T) {
	wantLastOneOrNot(t, "CountOnce", impl.CountOnce, func(set []int, fewer []int) []int { return fewer })
	for n := 0; n <= maxCount; n++ {
		wantNumber(t, fmt.Sprintf("CountOnce all numbers of %d", n), impl.CountOnce(upTo(maxCount, 1), n), impl.CountIn(upTo(maxCount, 2), n))
	}
}

func TestPromise30DivisorsCountParts(t *testing.T) {
	for n := 0; n <= maxCount; n++ {
		sum := 0
		for k := 1; k <= n; k++ {
			sum += impl.DivisorSum(k) * impl.CountParts(n-k)
		}
		wantNumber(t, fmt.Sprintf("sum of DivisorSum and CountParts of %d", n), sum, n*impl.CountParts(n))
	}
}

// pentagonalSigns returns by each pentagonal number up to the limit the sign that its number tells.
func pentagonalSigns() map[int]int {
	signs := map[int]int{}
	for k := -maxPentagonal; k <= maxPentagonal; k++ {
		if n := impl.Pentagonal(k); n <= maxCount {
			signs[n] = 1
			if k%2 != 0 {
				signs[n] = -1
			}
		}
	}
	return signs
}

func TestPromise31PentagonalNumbersHaveSigns(t *testing.T) {
	signs := pentagonalSigns()
	// These are the numbers for -5 to 5, without that for -5 and beyond.
	wantNumber(t, "pentagonal numbers up to 40", len(signs), 11)
	for n, sign := range signs {
		wantNumber(t, fmt.Sprintf("SignedDistinct(%d)", n), impl.SignedDistinct(n), sign)
	}
}

func TestPromise32SignsAreLeftAtPentagonalNumbersAlone(t *testing.T) {
	signs := pentagonalSigns()
	for n := 0; n <= maxCount; n++ {
		if _, is := signs[n]; !is {
			wantNumber(t, fmt.Sprintf("SignedDistinct(%d)", n), impl.SignedDistinct(n), 0)
		}
	}
}

func TestPromise33SquaresCountGaps(t *testing.T) {
	five := leaving(maxCount, 5, 1, 4)
	for n := 0; n <= maxCount; n++ {
		wantNumber(t, fmt.Sprintf("SquareSum(%d)", n), impl.SquareSum(n), impl.CountIn(five, n))
		if n <= maxList {
			wantNumber(t, fmt.Sprintf("KindCount of gap and %d", n), impl.KindCount("gap", n), impl.SquareSum(n))
		}
	}
}

func TestPromise34OwnConjugatesAreDifferentOddParts(t *testing.T) {
	odd := upTo(maxCount, 2)
	for n := 0; n <= maxCount; n++ {
		wantNumber(t, fmt.Sprintf("SelfCount(%d)", n), impl.SelfCount(n), impl.CountOnce(odd, n))
		if n <= maxList {
			wantNumber(t, fmt.Sprintf("KindCount of self and %d", n), impl.KindCount("self", n), impl.SelfCount(n))
		}
	}
}
