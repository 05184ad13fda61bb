package tests

import (
	"fmt"
	"testing"

	"loop.example/numberparts/impl"
)

// wantWayBack checks that one way leads back what another one leads away, that the sum stays, and which parts it leads.
func wantWayBack(t *testing.T, what string, way, back func(p []int) ([]int, bool), leads func(p []int) bool) {
	t.Helper()
	for n, list := range partsBySum {
		for _, p := range list {
			q, ok := way(p)
			if ok != leads(p) {
				t.Errorf("%s of %v = %v, %v", what, p, q, ok)
			}
			if !ok {
				continue
			}
			wantNumber(t, fmt.Sprintf("sum of %s of %v", what, p), impl.SumOf(q), n)
			again, ok := back(q)
			wantParts(t, fmt.Sprintf("way back from %s of %v", what, p), again, ok, p, true)
		}
	}
}

// isDividedNowhere returns whether a number divides none of some parts.
func isDividedNowhere(m int) func(p []int) bool {
	return func(p []int) bool { return every(p, func(part int) bool { return part%m != 0 }) }
}

// comesNowhere returns whether none of some parts comes so many times.
func comesNowhere(m int) func(p []int) bool {
	return func(p []int) bool { return every(p, func(part int) bool { return times(p, part) < m }) }
}

func isOfKind(name string) func(p []int) bool {
	return func(p []int) bool { return isKindPlainly(name, p) }
}

func TestPromise35WhatIsMergedIsSplit(t *testing.T) {
	for m := 2; m <= maxSum; m++ {
		wantWayBack(t, fmt.Sprintf("MergeEqual by %d", m), merging(m), splitting(m), isDividedNowhere(m))
		for _, p := range everyParts(maxSum) {
			if q, ok := impl.MergeEqual(p, m); ok && !comesNowhere(m)(q) {
				t.Errorf("MergeEqual(%v, %d) = %v", p, m, q)
			}
		}
	}
}

func TestPromise36WhatIsSplitIsMerged(t *testing.T) {
	for m := 2; m <= maxSum; m++ {
		wantWayBack(t, fmt.Sprintf("SplitEqual by %d", m), splitting(m), merging(m), comesNowhere(m))
		for _, p := range everyParts(maxSum) {
			if q, ok := impl.SplitEqual(p, m); ok && !isDividedNowhere(m)(q) {
				t.Errorf("SplitEqual(%v, %d) = %v", p, m, q)
			}
		}
	}
}

func TestPromise37HooksOfOwnConjugatesAreDifferentOddParts(t *testing.T) {
	wantWayBack(t, "HooksToOdd", impl.HooksToOdd, impl.OddToHooks, isOfKind("self"))
	for _, p := range everyParts(maxSum) {
		if q, ok := impl.HooksToOdd(p); ok {
			wantNumber(t, fmt.Sprintf("hooks of %v", p), len(q), impl.DurfeeOf(p))
			if !impl.IsKind("distinctodd", q) || !isKindPlainly("distinctodd", q) {
				t.Errorf("HooksToOdd(%v) = %v is not of the kind", p, q)
			}
		}
	}
}

func TestPromise38DifferentOddPartsAreHooks(t *testing.T) {
	wantWayBack(t, "OddToHooks", impl.OddToHooks, impl.HooksToOdd, isOfKind("distinctodd"))
	for _, p := range everyParts(maxSum) {
		if q, ok := impl.OddToHooks(p); ok && (!impl.IsKind("self", q) || !isKindPlainly("self", q)) {
			t.Errorf("OddToHooks(%v) = %v is not of the kind", p, q)
		}
	}
}

// signsLeft are the sums of the parts without an image, with 1 for an even number of them and -1 for an odd one.
var signsLeft = map[int]int{1: -1, 2: -1, 5: 1, 7: 1, 12: -1, 15: -1}

func TestPromise39FranklinsMapTurnsBack(t *testing.T) {
	wantWayBack(t, "FranklinMap", impl.FranklinMap, impl.FranklinMap, func(p []int) bool {
		_, ok := plainFranklin(p)
		return ok
	})
	alone := 0
	for n, list := range partsBySum {
		for _, p := range list {
			q, ok := impl.FranklinMap(p)
			switch {
			case ok:
				if more := len(q) - len(p); more != 1 && more != -1 || !isKindPlainly("distinct", q) {
					t.Errorf("FranklinMap(%v) = %v", p, q)
				}
			case len(p) > 0 && isKindPlainly("distinct", p):
				alone++
				if n != impl.Pentagonal(len(p)) && n != impl.Pentagonal(-len(p)) {
					t.Errorf("FranklinMap(%v): false", p)
				}
				wantNumber(t, fmt.Sprintf("sign of %v", p), 1-len(p)%2*2, signsLeft[n])
				wantNumber(t, fmt.Sprintf("SignedDistinct(%d)", n), impl.SignedDistinct(n), signsLeft[n])
			}
		}
	}
	wantNumber(t, "parts without an image", alone, len(signsLeft))
}

func TestPromise40StairsArePutBack(t *testing.T) {
	for n, list := range partsBySum {
		for _, p := range list {
			left, steps, ok := impl.StairCut(p)
			if ok != isKindPlainly("distinct", p) {
				t.Errorf("StairCut(%v) = %v, %d, %v", p, left, steps, ok)
			}
			if !ok {
				continue
			}
			wantNumber(t, fmt.Sprintf("sum of StairCut(%v)", p), impl.SumOf(left), n-total(upTo(len(p), 1)))
			back, ok := impl.StairPut(left, steps)
			wantParts(t, fmt.Sprintf("StairPut of StairCut(%v)", p), back, ok, p, true)
		}
	}
}

func TestPromise41StairsAreCutAgain(t *testing.T) {
	for n, list := range partsBySum {
		for _, p := range list {
			for k := 0; k <= maxSum; k++ {
				what := fmt.Sprintf("StairPut(%v, %d)", p, k)
				put, ok := impl.StairPut(p, k)
				if ok != (len(p) <= k && n+total(upTo(k, 1)) <= maxSum) {
					t.Errorf("%s = %v, %v", what, put, ok)
				}
				if !ok {
					continue
				}
				left, steps, ok := impl.StairCut(put)
				wantParts(t, "StairCut of "+what, left, ok, p, true)
				wantNumber(t, "steps of "+what, steps, k)
			}
		}
	}
}

func TestPromise42SquaresArePutBack(t *testing.T) {
	for n, list := range partsBySum {
		for _, p := range list {
			side, right, below := impl.SquareCut(p)
			wantNumber(t, fmt.Sprintf("side of %v", p), side, impl.DurfeeOf(p))
			wantNumber(t, fmt.Sprintf("sum around the square of %v", p), side*side+impl.SumOf(right)+impl.SumOf(below), n)
			back, ok := impl.SquarePut(side, right, below)
			wantParts(t, fmt.Sprintf("SquarePut of SquareCut(%v)", p), back, ok, p, true)
			wantSquare(t, impl.ConjugateOf(p), side, impl.ConjugateOf(below), impl.ConjugateOf(right))
		}
	}
}

func TestPromise43SquaresAreCutAgain(t *testing.T) {
	found := 0
	everyPair(func(right, below []int) {
		for side := 0; side <= 5; side++ {
			put, ok := impl.SquarePut(side, right, below)
			sum := side*side + total(right) + total(below)
			if ok != (len(right) <= side && greatest(below) <= side && sum <= maxSum) {
				t.Errorf("SquarePut(%d, %v, %v) = %v, %v", side, right, below, put, ok)
			}
			if ok {
				found++
				wantSquare(t, put, side, right, below)
			}
		}
	})
	wantNumber(t, "parts around squares", found, len(everyParts(maxSum)))
}

func TestPromise44DoubledPartsHaveEachConjugateTwice(t *testing.T) {
	for _, p := range everyParts(maxSum / 2) {
		twice, ok := impl.DoubleParts(p)
		must(t, fmt.Sprintf("DoubleParts(%v)", p), twice, ok)
		once := impl.ConjugateOf(p)
		wantList(t, fmt.Sprintf("ConjugateOf DoubleParts(%v)", p), impl.ConjugateOf(twice), unite(t, once, once))
	}
}
