package tests

import (
	"fmt"
	"slices"
	"testing"

	"loop.example/numberparts/impl"
)

func TestPromise45ConjugatesDominateTheOtherWayRound(t *testing.T) {
	everyTwo(maxSum, func(n, i, k int, p, q []int) {
		what := fmt.Sprintf("Dominates(%v, %v)", p, q)
		got := impl.Dominates(p, q)
		wantTruth(t, what, got, belowBySum[n][i][k])
		wantTruth(t, what+" of conjugates, exchanged,", impl.Dominates(impl.ConjugateOf(q), impl.ConjugateOf(p)), got)
		wantTruth(t, what+" both ways", got && impl.Dominates(q, p), i == k)
	})
}

func TestPromise46MeetsAreTheGreatestBelowBoth(t *testing.T) {
	everyTwo(maxList, func(n, i, k int, p, q []int) {
		m := meet(t, p, q)
		if !impl.Dominates(p, m) || !impl.Dominates(q, m) {
			t.Errorf("MeetParts(%v, %v) = %v is not dominated by both", p, q, m)
		}
		for l, r := range partsBySum[n] {
			if belowBySum[n][i][l] && belowBySum[n][k][l] && !impl.Dominates(m, r) {
				t.Errorf("MeetParts(%v, %v) = %v does not dominate %v", p, q, m, r)
			}
		}
	})
}

func TestPromise47JoinsAreMeetsOfConjugates(t *testing.T) {
	everyTwo(maxSum, func(n, i, k int, p, q []int) {
		what := fmt.Sprintf("JoinParts(%v, %v)", p, q)
		j := join(t, p, q)
		wantList(t, "ConjugateOf "+what, impl.ConjugateOf(j), meet(t, impl.ConjugateOf(p), impl.ConjugateOf(q)))
		if !impl.Dominates(j, p) || !impl.Dominates(j, q) {
			t.Errorf("%s = %v does not dominate both", what, j)
		}
		wantList(t, what+" with the meet", join(t, p, meet(t, p, q)), p)
		wantList(t, "meet with "+what, meet(t, p, j), p)
	})
}

func TestPromise48CoversAreRightBelow(t *testing.T) {
	for n := range maxList + 1 {
		for i, p := range partsBySum[n] {
			covers := impl.CoversOf(p)
			for _, q := range covers {
				if slices.Equal(p, q) || !impl.Dominates(p, q) {
					t.Errorf("CoversOf(%v) has %v", p, q)
				}
			}
			for k, r := range partsBySum[n] {
				if k == i || !impl.Dominates(p, r) {
					continue
				}
				isBelow := false
				for _, q := range covers {
					isBelow = isBelow || impl.Dominates(q, r)
					if impl.Dominates(r, q) && !slices.Equal(r, q) {
						t.Errorf("%v is between %v and %v", r, p, q)
					}
				}
				if !isBelow {
					t.Errorf("%v is dominated by none of CoversOf(%v) = %v", r, p, covers)
				}
			}
		}
	}
}

func TestPromise49CoversGoBothWays(t *testing.T) {
	for _, p := range everyParts(maxList) {
		up := impl.CoversUp(p)
		for i, q := range up {
			if !hasRow(impl.CoversOf(q), p) {
				t.Errorf("%v is not among CoversOf(%v)", p, q)
			}
			for k, r := range up {
				if i != k && impl.Dominates(r, q) {
					t.Errorf("CoversUp(%v): %v is dominated by %v", p, q, r)
				}
			}
		}
		for _, q := range impl.CoversOf(p) {
			if !hasRow(impl.CoversUp(q), p) {
				t.Errorf("%v is not among CoversUp(%v)", p, q)
			}
		}
	}
}

func TestPromise50ChainsGoByCovers(t *testing.T) {
	everyTwo(maxList, func(n, i, k int, p, q []int) {
		chain, ok := impl.ChainDown(p, q)
		if ok != belowBySum[n][i][k] {
			t.Fatalf("ChainDown(%v, %v) = %v, %v", p, q, chain, ok)
		}
		if !ok {
			return
		}
		if len(chain) == 0 || !slices.Equal(chain[0], p) || !slices.Equal(chain[len(chain)-1], q) {
			t.Fatalf("ChainDown(%v, %v) = %v", p, q, chain)
		}
		for l := range chain[1:] {
			if !hasRow(impl.CoversOf(chain[l]), chain[l+1]) {
				t.Errorf("ChainDown(%v, %v): %v is not among CoversOf(%v)", p, q, chain[l+1], chain[l])
			}
		}
	})
}

func TestPromise51SumsDominate(t *testing.T) {
	refining := 0
	everyTwo(maxSum, func(n, i, k int, p, q []int) {
		if !impl.Refines(p, q) {
			return
		}
		refining++
		if !impl.Dominates(q, p) || len(q) > len(p) {
			t.Errorf("Refines(%v, %v), but the sums do not dominate, or are more", p, q)
		}
	})
	want := 0
	for _, sums := range coarserParts {
		want += len(sums)
	}
	wantNumber(t, "pairs of parts and sums of them", refining, want)
}

func TestPromise52RanksTurnWithConjugates(t *testing.T) {
	for _, p := range everyParts(maxSum) {
		rank := impl.RankOf(p)
		wantNumber(t, fmt.Sprintf("RankOf(%v)", p), rank, plainRank(p))
		wantNumber(t, fmt.Sprintf("RankOf ConjugateOf(%v)", p), impl.RankOf(impl.ConjugateOf(p)), -rank)
	}
}

func TestPromise53CranksAreAtMostTheSum(t *testing.T) {
	for n, list := range partsBySum {
		for _, p := range list {
			crank := impl.CrankOf(p)
			if crank > n || crank < -n {
				t.Errorf("CrankOf(%v) = %d is beyond the sum", p, crank)
			}
			// Of no parts none is 1 either, but the document says that their crank is 0.
			if n > 0 && times(p, 1) == 0 && crank <= 0 {
				t.Errorf("CrankOf(%v) = %d is not greater than 0", p, crank)
			}
		}
		if n > 0 {
			wantNumber(t, fmt.Sprintf("greatest crank of %d", n), impl.CrankOf([]int{n}), map[bool]int{true: -1, false: n}[n == 1])
			wantNumber(t, fmt.Sprintf("least crank of %d", n), impl.CrankOf(slices.Repeat([]int{1}, n)), -n)
		}
	}
}

// wantBothWays checks that a spread has as many at each remainder as at that of the numbers with the other sign.
func wantBothWays(t *testing.T, what string, spread []int) {
	t.Helper()
	for r, many := range spread {
		wantNumber(t, fmt.Sprintf("%s at %d", what, r), spread[(len(spread)-r)%len(spread)], many)
	}
}

// wantEven checks that a spread has as many at each remainder.
func wantEven(t *testing.T, what string, spread []int, n, m int) {
	t.Helper()
	wantList(t, fmt.Sprintf("%s(%d, %d)", what, n, m), spread, slices.Repeat([]int{manyParts[n] / m}, m))
}

func TestPromise54RanksSpreadEvenlyOver5And7(t *testing.T) {
	for n := range maxList + 1 {
		for m := 1; m <= maxSum; m++ {
			what := fmt.Sprintf("RankSpread(%d, %d)", n, m)
			spread := impl.RankSpread(n, m)
			wantNumber(t, "numbers of "+what, len(spread), m)
			wantNumber(t, what+" together", total(spread), impl.CountParts(n))
			wantBothWays(t, what, spread)
		}
	}
	for _, c := range [][2]int{{4, 5}, {9, 5}, {5, 7}, {12, 7}} {
		wantEven(t, "RankSpread", impl.RankSpread(c[0], c[1]), c[0], c[1])
	}
}

func TestPromise55CranksSpreadEvenlyOver5And7And11(t *testing.T) {
	for n := range maxList + 1 {
		for m := 1; m <= maxSum; m++ {
			what := fmt.Sprintf("CrankSpread(%d, %d)", n, m)
			spread := impl.CrankSpread(n, m)
			wantNumber(t, "numbers of "+what, len(spread), m)
			wantNumber(t, what+" together", total(spread), impl.CountParts(n))
			if n >= 2 {
				wantBothWays(t, what, spread)
			}
		}
	}
	for _, c := range [][2]int{{4, 5}, {9, 5}, {5, 7}, {12, 7}, {6, 11}} {
		wantEven(t, "CrankSpread", impl.CrankSpread(c[0], c[1]), c[0], c[1])
	}
}

func TestPromise56ConjugatesAreInsideAlike(t *testing.T) {
	for _, p := range everyParts(maxSum) {
		for _, q := range everyParts(maxSum) {
			got := impl.HasInside(p, q)
			if got != hasInsidePlainly(p, q) || got != impl.HasInside(impl.ConjugateOf(p), impl.ConjugateOf(q)) {
				t.Fatalf("HasInside(%v, %v) = %v, or not so of the conjugates", p, q, got)
			}
		}
	}
}

func TestPromise57WhatBothHaveAndWhatHasBothAreBothTogether(t *testing.T) {
	for _, p := range everyParts(maxSum) {
		for _, q := range everyParts(maxSum) {
			both, either, ok := impl.CutInside(p, q)
			if _, _, want := plainCut(p, q); ok != want {
				t.Fatalf("CutInside(%v, %v) = %v, %v, %v", p, q, both, either, ok)
			}
			if !ok {
				continue
			}
			if impl.SumOf(both)+impl.SumOf(either) != total(p)+total(q) {
				t.Fatalf("CutInside(%v, %v) = %v, %v: not both together", p, q, both, either)
			}
			if !impl.HasInside(p, both) || !impl.HasInside(q, both) || !impl.HasInside(either, p) || !impl.HasInside(either, q) {
				t.Fatalf("CutInside(%v, %v) = %v, %v: not inside", p, q, both, either)
			}
			if impl.HasInside(p, q) && (!slices.Equal(both, q) || !slices.Equal(either, p)) {
				t.Fatalf("CutInside(%v, %v) = %v, %v: not both themselves", p, q, both, either)
			}
			if impl.HasInside(q, p) && (!slices.Equal(both, p) || !slices.Equal(either, q)) {
				t.Fatalf("CutInside(%v, %v) = %v, %v: not both themselves", p, q, both, either)
			}
		}
	}
}
