package tests

import (
	"fmt"
	"slices"
	"strings"
	"testing"

	"loop.example/numberparts/impl"
)

// The promises go around in circles: most of them hold of functions that are wrong in the same way.
// So each test also holds one end of its circle to what is written out, or to the plain functions.

func remove(t *testing.T, p []int, i int) []int {
	t.Helper()
	q, ok := impl.RemoveCell(p, i)
	return must(t, fmt.Sprintf("RemoveCell(%v, %d)", p, i), q, ok)
}

func unite(t *testing.T, p []int, q []int) []int {
	t.Helper()
	r, ok := impl.UniteParts(p, q)
	return must(t, fmt.Sprintf("UniteParts(%v, %v)", p, q), r, ok)
}

func add(t *testing.T, p []int, q []int) []int {
	t.Helper()
	r, ok := impl.AddParts(p, q)
	return must(t, fmt.Sprintf("AddParts(%v, %v)", p, q), r, ok)
}

func turned(list []int) []int {
	list = slices.Clone(list)
	slices.Reverse(list)
	return list
}

// everyPair calls f with all pairs of parts that are together at most the limit.
func everyPair(f func(p []int, q []int)) {
	for n := 0; n <= maxSum; n++ {
		for _, p := range partsBySum[n] {
			for _, q := range everyParts(maxSum - n) {
				f(p, q)
			}
		}
	}
}

func TestPromise1PartsCanBeCut(t *testing.T) {
	for _, p := range everyParts(maxSum) {
		if !impl.ValidParts(p) {
			t.Errorf("ValidParts(%v) = false", p)
		}
		for cut := range p {
			if !impl.ValidParts(p[:cut]) {
				t.Errorf("ValidParts(%v) = false", p[:cut])
			}
		}
		if q := impl.ConjugateOf(p); len(p) > 0 && len(q) == 0 || !impl.ValidParts(q) {
			t.Errorf("ConjugateOf(%v) = %v is no parts", p, q)
		}
	}
}

func TestPromise2SumsStayWithConjugates(t *testing.T) {
	for n, list := range partsBySum {
		for _, p := range list {
			wantNumber(t, fmt.Sprintf("SumOf ConjugateOf %v", p), impl.SumOf(impl.ConjugateOf(p)), n)
			wantNumber(t, fmt.Sprintf("SumOf %v", p), impl.SumOf(p), n)
		}
	}
}

func TestPromise3AllPartsStandByTheirPlaces(t *testing.T) {
	for n := 0; n <= maxList; n++ {
		all := impl.AllParts(n)
		wantNumber(t, fmt.Sprintf("length of AllParts(%d)", n), len(all), manyParts[n])
		wantNumber(t, fmt.Sprintf("CountParts(%d)", n), impl.CountParts(n), len(all))
		for k, p := range all {
			wantNumber(t, fmt.Sprintf("PlaceOf(%v)", p), impl.PlaceOf(p), k)
			wantNumber(t, fmt.Sprintf("SumOf(%v)", p), impl.SumOf(p), n)
		}
	}
}

func TestPromise5PlacesAreReadBack(t *testing.T) {
	for n, list := range partsBySum {
		for _, p := range list {
			q, ok := impl.PartsAt(n, impl.PlaceOf(p))
			wantParts(t, fmt.Sprintf("PartsAt PlaceOf %v", p), q, ok, p, true)
		}
	}
}

func TestPromise6PlacesAreWrittenBack(t *testing.T) {
	for n := 0; n <= maxSum; n++ {
		for k := range manyParts[n] {
			what := fmt.Sprintf("PartsAt(%d, %d)", n, k)
			p, ok := impl.PartsAt(n, k)
			wantNumber(t, "PlaceOf "+what, impl.PlaceOf(must(t, what, p, ok)), k)
			wantNumber(t, "SumOf "+what, impl.SumOf(p), n)
		}
		if p, ok := impl.PartsAt(n, manyParts[n]); ok {
			t.Errorf("PartsAt(%d, %d) = %v", n, manyParts[n], p)
		}
	}
}

func TestPromise7ConjugatesTurnBack(t *testing.T) {
	for _, p := range everyParts(maxSum) {
		q := impl.ConjugateOf(p)
		wantList(t, fmt.Sprintf("ConjugateOf twice %v", p), impl.ConjugateOf(q), p)
		wantNumber(t, fmt.Sprintf("length of ConjugateOf %v", p), len(q), greatest(p))
	}
	wantList(t, "ConjugateOf(5+2+2)", impl.ConjugateOf([]int{5, 2, 2}), []int{3, 3, 1, 1, 1})
}

func TestPromise8SquaresStayWithConjugates(t *testing.T) {
	for n, list := range partsBySum {
		for _, p := range list {
			side := impl.DurfeeOf(p)
			wantNumber(t, fmt.Sprintf("DurfeeOf ConjugateOf %v", p), impl.DurfeeOf(impl.ConjugateOf(p)), side)
			wantNumber(t, fmt.Sprintf("DurfeeOf %v", p), side, plainDurfee(p))
			if side < 0 || side*side > n {
				t.Errorf("DurfeeOf(%v) = %d", p, side)
			}
		}
	}
}

func TestPromise9ArmsAndLegsAreReadBack(t *testing.T) {
	for _, p := range everyParts(maxSum) {
		arms, legs := impl.FrobeniusOf(p)
		q, ok := impl.PartsOfFrobenius(arms, legs)
		wantParts(t, fmt.Sprintf("PartsOfFrobenius of FrobeniusOf %v", p), q, ok, p, true)
		otherArms, otherLegs := impl.FrobeniusOf(impl.ConjugateOf(p))
		wantList(t, fmt.Sprintf("arms of ConjugateOf %v", p), otherArms, legs)
		wantList(t, fmt.Sprintf("legs of ConjugateOf %v", p), otherLegs, arms)
	}
	arms, legs := impl.FrobeniusOf([]int{4, 4, 1})
	wantList(t, "arms of 4+4+1", arms, []int{3, 2})
	wantList(t, "legs of 4+4+1", legs, []int{2, 0})
}

// mayBeArms reports whether each number is less than the one ahead, with a sum that may be one of arms.
func mayBeArms(list []int) bool {
	for i := 1; i < len(list); i++ {
		if list[i] >= list[i-1] {
			return false
		}
	}
	return total(list)+len(list) <= maxSum+1
}

func TestPromise10ArmsAndLegsAreWrittenBack(t *testing.T) {
	var lists [][]int
	everySmallList(4, 0, maxSum-1, func(list []int) {
		if mayBeArms(list) {
			lists = append(lists, list)
		}
	})
	found := 0
	for _, arms := range lists {
		for _, legs := range lists {
			sum := total(arms) + total(legs) + len(arms)
			p, ok := impl.PartsOfFrobenius(arms, legs)
			if ok != (len(arms) == len(legs) && sum <= maxSum) {
				t.Fatalf("PartsOfFrobenius(%v, %v) = %v, %v", arms, legs, p, ok)
			}
			if !ok {
				continue
			}
			found++
			wantNumber(t, fmt.Sprintf("sum of %v", p), impl.SumOf(p), sum)
			gotArms, gotLegs := impl.FrobeniusOf(p)
			wantList(t, fmt.Sprintf("arms of %v", p), gotArms, arms)
			wantList(t, fmt.Sprintf("legs of %v", p), gotLegs, legs)
		}
	}
	wantNumber(t, "parts by arms and legs", found, len(everyParts(maxSum)))
}

func TestPromise11HooksDivideAllOrders(t *testing.T) {
	allOrders := 1
	for n := 0; n <= maxList; n++ {
		allOrders *= max(n, 1)
		for _, p := range partsBySum[n] {
			divided := impl.GrowthsOf(p)
			for _, row := range impl.HooksOf(p) {
				divided *= product(row)
			}
			wantNumber(t, fmt.Sprintf("hooks and growths of %v", p), divided, allOrders)
		}
	}
}

func TestPromise12CornersAreAsManyAsDifferentParts(t *testing.T) {
	for _, p := range everyParts(maxSum) {
		corners := len(impl.CornersOf(p))
		wantNumber(t, fmt.Sprintf("corners of %v", p), corners, atLeast(impl.TimesOf(p), 1))
		wantNumber(t, fmt.Sprintf("corners of %v", p), corners, len(slices.Compact(slices.Clone(p))))
		wantNumber(t, fmt.Sprintf("corners of ConjugateOf %v", p), len(impl.CornersOf(impl.ConjugateOf(p))), corners)
	}
}

func TestPromise13WhatIsRemovedIsAdded(t *testing.T) {
	for n, list := range partsBySum {
		for _, p := range list {
			for _, i := range plainCorners(p) {
				less := remove(t, p, i)
				back, ok := impl.AddCell(less, i)
				wantParts(t, fmt.Sprintf("AddCell of RemoveCell(%v, %d)", p, i), back, ok, p, true)
				wantNumber(t, fmt.Sprintf("sum of RemoveCell(%v, %d)", p, i), impl.SumOf(less), n-1)
			}
		}
	}
}

func TestPromise14WhatIsAddedIsRemoved(t *testing.T) {
	for n := 0; n < maxSum; n++ {
		for _, p := range partsBySum[n] {
			added := 0
			for i := range len(p) + 1 {
				more, ok := impl.AddCell(p, i)
				if !ok {
					continue
				}
				added++
				back, ok := impl.RemoveCell(more, i)
				wantParts(t, fmt.Sprintf("RemoveCell of AddCell(%v, %d)", p, i), back, ok, p, true)
				wantNumber(t, fmt.Sprintf("sum of AddCell(%v, %d)", p, i), impl.SumOf(more), n+1)
			}
			wantNumber(t, fmt.Sprintf("places to add to %v", p), added, len(plainCorners(p))+1)
		}
	}
}

func TestPromise15UnitedPartsAreAddedConjugates(t *testing.T) {
	everyPair(func(p, q []int) {
		united := unite(t, p, q)
		wantList(t, fmt.Sprintf("ConjugateOf UniteParts(%v, %v)", p, q), impl.ConjugateOf(united), add(t, impl.ConjugateOf(p), impl.ConjugateOf(q)))
		wantList(t, fmt.Sprintf("UniteParts(%v, %v)", p, q), united, plainUnion(p, q))
	})
}

func TestPromise16AddedPartsAreUnitedConjugates(t *testing.T) {
	everyPair(func(p, q []int) {
		added := add(t, p, q)
		wantList(t, fmt.Sprintf("ConjugateOf AddParts(%v, %v)", p, q), impl.ConjugateOf(added), unite(t, impl.ConjugateOf(p), impl.ConjugateOf(q)))
		wantList(t, fmt.Sprintf("AddParts(%v, %v)", q, p), add(t, q, p), added)
		wantList(t, fmt.Sprintf("UniteParts(%v, %v)", q, p), unite(t, q, p), unite(t, p, q))
		wantList(t, fmt.Sprintf("AddParts(%v, %v)", p, q), added, plainAddition(p, q))
	})
}

func TestPromise17TimesAreDifferencesOfConjugates(t *testing.T) {
	for n, list := range partsBySum {
		for _, p := range list {
			falling := append(impl.ConjugateOf(p), 0)
			times := impl.TimesOf(p)
			wantNumber(t, fmt.Sprintf("length of TimesOf(%v)", p), len(times), greatest(p))
			sum := 0
			for k, often := range times {
				wantNumber(t, fmt.Sprintf("times of %d in %v", k+1, p), often, falling[k]-falling[k+1])
				sum += often * (k + 1)
			}
			wantNumber(t, fmt.Sprintf("times of %v together", p), sum, n)
		}
	}
}

func TestPromise18GrowthsEndAtCorners(t *testing.T) {
	wantNumber(t, "GrowthsOf none", impl.GrowthsOf(nil), 1)
	for _, p := range everyParts(maxList) {
		ways := impl.GrowthsOf(p)
		wantNumber(t, fmt.Sprintf("GrowthsOf ConjugateOf %v", p), impl.GrowthsOf(impl.ConjugateOf(p)), ways)
		if len(p) == 0 {
			continue
		}
		sum := 0
		for _, i := range impl.CornersOf(p) {
			sum += impl.GrowthsOf(remove(t, p, i))
		}
		wantNumber(t, fmt.Sprintf("GrowthsOf(%v)", p), ways, sum)
	}
}

func TestPromise19DiagonalsAreAllCells(t *testing.T) {
	for n, list := range partsBySum {
		for _, p := range list {
			diagonals := impl.DiagonalsOf(p)
			wantNumber(t, fmt.Sprintf("diagonals of %v together", p), total(diagonals), n)
			wantList(t, fmt.Sprintf("DiagonalsOf ConjugateOf %v", p), impl.DiagonalsOf(impl.ConjugateOf(p)), turned(diagonals))
			wantNumber(t, fmt.Sprintf("greatest of DiagonalsOf %v", p), greatest(diagonals), impl.DurfeeOf(p))
		}
	}
}

func TestPromise20PartsAreReadBack(t *testing.T) {
	for _, p := range everyParts(maxSum) {
		s := impl.PartsText(p)
		q, ok := impl.ParseParts(s)
		wantParts(t, fmt.Sprintf("ParseParts(%q)", s), q, ok, p, true)
	}
}

func TestPromise21TextsOfPartsAreWrittenBack(t *testing.T) {
	texts := textsOf(everyParts(maxSum))
	for _, s := range texts {
		for _, other := range []string{s, "0" + s, s + "+0", strings.ReplaceAll(s, "+", " + "), strings.ReplaceAll(s, "1", "01")} {
			p, ok := impl.ParseParts(other)
			if ok && impl.PartsText(p) != other {
				t.Errorf("PartsText of ParseParts(%q) = %q", other, impl.PartsText(p))
			}
			if other == s && !ok {
				t.Errorf("ParseParts(%q): false", s)
			}
		}
	}
}
