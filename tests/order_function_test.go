package tests

import (
	"fmt"
	"math"
	"slices"
	"strings"
	"testing"

	"loop.example/numberparts/impl"
)

// fieldsOf returns the numbers of each of some texts with spaces between them, where - is that of none.
func fieldsOf(t *testing.T, texts string) [][]int {
	t.Helper()
	var list [][]int
	for _, s := range strings.Fields(texts) {
		list = append(list, numbersOf(t, strings.TrimPrefix(s, "-")))
	}
	return list
}

func TestDominates(t *testing.T) {
	everyTwo(maxSum, func(n, i, k int, p, q []int) {
		wantTruth(t, fmt.Sprintf("Dominates(%v, %v)", p, q), impl.Dominates(p, q), belowBySum[n][i][k])
	})
	withTwoSums(func(p, q []int) {
		wantTruth(t, fmt.Sprintf("Dominates(%v, %v)", p, q), impl.Dominates(p, q), false)
	})
	withWrong(func(p, q []int) {
		wantTruth(t, fmt.Sprintf("Dominates(%s, %s)", brief(p), brief(q)), impl.Dominates(p, q), false)
	})
}

func TestDominatesByText(t *testing.T) {
	for _, c := range []struct {
		p, q        string
		there, back bool
	}{
		{"", "", true, true}, {"1", "1", true, true}, {"2", "1+1", true, false}, {"4+2", "4+1+1", true, false}, {"4+2", "3+3", true, false},
		{"3+3", "4+1+1", false, false}, {"3+1+1+1", "2+2+2", false, false}, {"5+1+1", "4+3", false, false}, {"4+1+1+1", "3+3+1", false, false},
		{"16", "1+1+1+1+1+1+1+1+1+1+1+1+1+1+1+1", true, false}, {"9+7", "8+8", true, false}, {"13+1+1+1", "8+8", false, false}, {"8+8", "8+8", true, true},
		{"1", "", false, false}, {"2", "1", false, false}, {"4", "3+3", false, false}, {"3+3", "3", false, false}, {"16", "15", false, false}, {"5+5", "5+4", false, false},
	} {
		wantTruth(t, fmt.Sprintf("Dominates(%s, %s)", c.p, c.q), impl.Dominates(parse(t, c.p), parse(t, c.q)), c.there)
		wantTruth(t, fmt.Sprintf("Dominates(%s, %s)", c.q, c.p), impl.Dominates(parse(t, c.q), parse(t, c.p)), c.back)
	}
}

func TestMeetPartsAndJoinParts(t *testing.T) {
	var turned []below
	for _, b := range belowBySum {
		turned = append(turned, b.turned())
	}
	everyTwo(maxSum, func(n, i, k int, p, q []int) {
		place, found := belowBySum[n].greatestBelow(i, k)
		wantNumber(t, fmt.Sprintf("meets of %v and %v", p, q), found, 1)
		wantList(t, fmt.Sprintf("MeetParts(%v, %v)", p, q), meet(t, p, q), partsBySum[n][place])
		place, found = turned[n].greatestBelow(i, k)
		wantNumber(t, fmt.Sprintf("joins of %v and %v", p, q), found, 1)
		wantList(t, fmt.Sprintf("JoinParts(%v, %v)", p, q), join(t, p, q), partsBySum[n][place])
	})
}

func TestMeetPartsAndJoinPartsOfWrongArguments(t *testing.T) {
	none := func(p, q []int) {
		m, ok := impl.MeetParts(p, q)
		wantParts(t, fmt.Sprintf("MeetParts(%s, %s)", brief(p), brief(q)), m, ok, nil, false)
		m, ok = impl.JoinParts(p, q)
		wantParts(t, fmt.Sprintf("JoinParts(%s, %s)", brief(p), brief(q)), m, ok, nil, false)
	}
	withTwoSums(none)
	withWrong(none)
}

func TestMeetPartsAndJoinPartsByText(t *testing.T) {
	for _, c := range []struct{ p, q, meet, join string }{
		{"", "", "", ""}, {"1", "1", "1", "1"}, {"2", "1+1", "1+1", "2"}, {"4+1+1", "3+3", "3+2+1", "4+2"}, {"3+1+1+1", "2+2+2", "2+2+1+1", "3+2+1"},
		{"5+1+1", "4+3", "4+2+1", "5+2"}, {"13+1+1+1", "8+8", "8+6+1+1", "13+3"}, {"5+1+1+1+1", "3+3+3", "3+3+1+1+1", "5+2+2"},
		{"16", "1+1+1+1+1+1+1+1+1+1+1+1+1+1+1+1", "1+1+1+1+1+1+1+1+1+1+1+1+1+1+1+1", "16"}, {"3+3", "3+3", "3+3", "3+3"}, {"6+1+1+1", "4+4+1", "4+3+1+1", "6+2+1"},
	} {
		p, q := parse(t, c.p), parse(t, c.q)
		if total(p) != total(q) || c.meet != plainText(meet(t, p, q)) || c.join != plainText(join(t, p, q)) {
			t.Errorf("%s and %s: MeetParts = %v, JoinParts = %v", c.p, c.q, meet(t, p, q), join(t, p, q))
		}
	}
}

func TestCoversOfAndCoversUp(t *testing.T) {
	for n := range maxList + 1 {
		for i, p := range partsBySum[n] {
			wantRows(t, fmt.Sprintf("CoversOf(%v)", p), impl.CoversOf(p), placesOf(n, coversPlainly[n][i]))
			var up []int
			for k := range partsBySum[n] {
				if slices.Contains(coversPlainly[n][k], i) {
					up = append(up, k)
				}
			}
			wantRows(t, fmt.Sprintf("CoversUp(%v)", p), impl.CoversUp(p), placesOf(n, up))
		}
	}
	for n := maxList + 1; n <= maxSum; n++ {
		for _, p := range partsBySum[n] {
			wantRows(t, fmt.Sprintf("CoversOf(%v)", p), impl.CoversOf(p), nil)
			wantRows(t, fmt.Sprintf("CoversUp(%v)", p), impl.CoversUp(p), nil)
		}
	}
	for _, p := range wrongNumbers {
		wantRows(t, fmt.Sprintf("CoversOf(%s)", brief(p)), impl.CoversOf(p), nil)
		wantRows(t, fmt.Sprintf("CoversUp(%s)", brief(p)), impl.CoversUp(p), nil)
	}
}

func TestCoversOfAndCoversUpByText(t *testing.T) {
	for _, c := range []struct{ p, below, above string }{
		{"", "", ""}, {"1", "", ""}, {"2", "1+1", ""}, {"1+1", "", "2"}, {"4+2", "4+1+1 3+3", "5+1"}, {"3+2+1", "3+1+1+1 2+2+2", "4+1+1 3+3"}, {"3+3", "3+2+1", "4+2"},
		{"4+1+1", "3+2+1", "4+2"}, {"2+2+2", "2+2+1+1", "3+2+1"}, {"12", "11+1", ""}, {"11+1", "10+2", "12"}, {"1+1+1+1+1+1+1+1+1+1+1+1", "", "2+1+1+1+1+1+1+1+1+1+1"},
		{"6+4+2", "6+4+1+1 6+3+3 5+5+2", "7+3+2 6+5+1"}, {"5+4+2+1", "5+4+1+1+1 5+3+3+1", "6+3+2+1 5+5+1+1 5+4+3"}, {"13", "", ""}, {"7+6", "", ""}, {"1+1+1+1+1+1+1+1+1+1+1+1+1", "", ""},
	} {
		wantRows(t, fmt.Sprintf("CoversOf(%s)", c.p), impl.CoversOf(parse(t, c.p)), fieldsOf(t, c.below))
		wantRows(t, fmt.Sprintf("CoversUp(%s)", c.p), impl.CoversUp(parse(t, c.p)), fieldsOf(t, c.above))
	}
}

func TestRefines(t *testing.T) {
	everyTwo(maxSum, func(n, i, k int, p, q []int) {
		wantTruth(t, fmt.Sprintf("Refines(%v, %v)", p, q), impl.Refines(p, q), coarserParts[plainText(p)][plainText(q)])
	})
	withTwoSums(func(p, q []int) {
		wantTruth(t, fmt.Sprintf("Refines(%v, %v)", p, q), impl.Refines(p, q), false)
	})
	withWrong(func(p, q []int) {
		wantTruth(t, fmt.Sprintf("Refines(%s, %s)", brief(p), brief(q)), impl.Refines(p, q), false)
	})
}

func TestRefinesByText(t *testing.T) {
	for _, c := range []struct {
		p, q string
		want bool
	}{
		{"", "", true}, {"1", "1", true}, {"1+1", "2", true}, {"2", "1+1", false}, {"2+2+1+1", "3+3", true}, {"2+2+2", "3+3", false}, {"2+2+2", "4+2", true},
		{"4+2", "2+2+2", false}, {"4+3+3+2+2+2", "8+8", true}, {"5+5+3+3", "8+8", true}, {"5+5+5+1", "8+8", false}, {"7+5+4", "9+7", true}, {"7+5+4", "10+6", false},
		{"3+3+2+2+2", "6+6", true}, {"3+3+3+3", "8+4", false}, {"4+4+4+4", "16", true}, {"16", "16", true}, {"1+1+1+1+1+1+1+1+1+1+1+1+1+1+1+1", "5+4+3+2+1+1", true},
		{"3+3", "5", false}, {"3+3", "7", false}, {"3+3", "3", false}, {"3", "3+3", false}, {"1", "", false}, {"", "1", false}, {"6+5+5", "11+5", true},
	} {
		wantTruth(t, fmt.Sprintf("Refines(%s, %s)", c.p, c.q), impl.Refines(parse(t, c.p), parse(t, c.q)), c.want)
	}
}

func TestRankOfAndCrankOf(t *testing.T) {
	for _, p := range everyParts(maxSum) {
		wantNumber(t, fmt.Sprintf("RankOf(%v)", p), impl.RankOf(p), plainRank(p))
		wantNumber(t, fmt.Sprintf("CrankOf(%v)", p), impl.CrankOf(p), plainCrank(p))
	}
	for _, p := range append(slices.Clone(wrongNumbers), nil, []int{}) {
		wantNumber(t, fmt.Sprintf("RankOf(%s)", brief(p)), impl.RankOf(p), 0)
		wantNumber(t, fmt.Sprintf("CrankOf(%s)", brief(p)), impl.CrankOf(p), 0)
	}
}

func TestRankOfAndCrankOfByText(t *testing.T) {
	for _, c := range []struct {
		p           string
		rank, crank int
	}{
		{"", 0, 0}, {"1", 0, -1}, {"2", 1, 2}, {"1+1", -1, -2}, {"3", 2, 3}, {"2+1", 0, 0}, {"4+1+1", 1, -1}, {"3+3", 1, 3}, {"3+2+1", 0, 1}, {"16", 15, 16},
		{"1+1+1+1+1+1+1+1+1+1+1+1+1+1+1+1", -15, -16}, {"15+1", 13, 0}, {"8+8", 6, 8}, {"5+3+3+2+1+1", -1, 1}, {"2+2+1+1", -2, -2}, {"2+2+2+2+2+2+2+1+1", -7, -2},
		{"3+3+3+3+2+1+1", -4, 2}, {"8+1+1+1+1+1+1+1+1", -1, -8}, {"8+1+1+1+1+1+1+1", 0, -6}, {"2+2+2+2+2+2+2+2", -6, 2}, {"2+2+2+2+2+2+2+1", -6, 6},
	} {
		wantNumber(t, fmt.Sprintf("RankOf(%s)", c.p), impl.RankOf(parse(t, c.p)), c.rank)
		wantNumber(t, fmt.Sprintf("CrankOf(%s)", c.p), impl.CrankOf(parse(t, c.p)), c.crank)
	}
}

func TestRankSpreadAndCrankSpread(t *testing.T) {
	for n := -1; n <= maxSum+1; n++ {
		for m := -1; m <= maxSum+2; m++ {
			var ranks, cranks []int
			if n >= 0 && n <= maxList && m >= 1 && m <= maxSum {
				ranks, cranks = plainSpread(n, m, plainRank), plainSpread(n, m, plainCrank)
			}
			wantList(t, fmt.Sprintf("RankSpread(%d, %d)", n, m), impl.RankSpread(n, m), ranks)
			wantList(t, fmt.Sprintf("CrankSpread(%d, %d)", n, m), impl.CrankSpread(n, m), cranks)
		}
	}
	wrongDivisors := append(wrongSums(maxSum), 0, math.MaxInt-1)
	for _, n := range append(wrongSums(maxList), 0, 1, 4, maxList) {
		for _, m := range wrongDivisors {
			wantList(t, fmt.Sprintf("RankSpread(%d, %d)", n, m), impl.RankSpread(n, m), nil)
			wantList(t, fmt.Sprintf("CrankSpread(%d, %d)", n, m), impl.CrankSpread(n, m), nil)
		}
	}
	for _, n := range wrongSums(maxList) {
		for _, m := range []int{1, 2, 5, maxSum} {
			wantList(t, fmt.Sprintf("RankSpread(%d, %d)", n, m), impl.RankSpread(n, m), nil)
			wantList(t, fmt.Sprintf("CrankSpread(%d, %d)", n, m), impl.CrankSpread(n, m), nil)
		}
	}
}

// TestSpreadsByNumbers has remainders of numbers below 0 written out.
func TestSpreadsByNumbers(t *testing.T) {
	for _, c := range []struct {
		n, m          int
		ranks, cranks []int
	}{
		{0, 1, []int{1}, []int{1}},
		{0, 3, []int{1, 0, 0}, []int{1, 0, 0}},
		{1, 1, []int{1}, []int{1}},
		{1, 3, []int{1, 0, 0}, []int{0, 0, 1}},
		{2, 3, []int{0, 1, 1}, []int{0, 1, 1}},
		{2, 5, []int{0, 1, 0, 0, 1}, []int{0, 0, 1, 1, 0}},
		{3, 2, []int{3, 0}, []int{1, 2}},
		{3, 4, []int{1, 0, 2, 0}, []int{1, 1, 0, 1}},
		{4, 5, []int{1, 1, 1, 1, 1}, []int{1, 1, 1, 1, 1}},
		{4, 16, []int{1, 1, 0, 1, 0, 0, 0, 0, 0, 0, 0, 0, 0, 1, 0, 1}, []int{1, 0, 1, 0, 1, 0, 0, 0, 0, 0, 0, 0, 1, 0, 1, 0}},
		{12, 1, []int{77}, []int{77}},
		{12, 7, []int{11, 11, 11, 11, 11, 11, 11}, []int{11, 11, 11, 11, 11, 11, 11}},
	} {
		wantList(t, fmt.Sprintf("RankSpread(%d, %d)", c.n, c.m), impl.RankSpread(c.n, c.m), c.ranks)
		wantList(t, fmt.Sprintf("CrankSpread(%d, %d)", c.n, c.m), impl.CrankSpread(c.n, c.m), c.cranks)
	}
}

func TestHasInside(t *testing.T) {
	for _, p := range everyParts(maxSum) {
		for _, q := range everyParts(maxSum) {
			if got := impl.HasInside(p, q); got != hasInsidePlainly(p, q) {
				t.Fatalf("HasInside(%v, %v) = %v", p, q, got)
			}
		}
	}
	withWrong(func(p, q []int) {
		wantTruth(t, fmt.Sprintf("HasInside(%s, %s)", brief(p), brief(q)), impl.HasInside(p, q), false)
	})
}

func TestHasInsideByText(t *testing.T) {
	for _, c := range []struct {
		p, q string
		want bool
	}{
		{"", "", true}, {"1", "", true}, {"", "1", false}, {"4+1+1", "2+1", true}, {"4+1+1", "2+2", false}, {"3+3", "4+1+1", false}, {"4+1+1", "3+3", false}, {"16", "16", true},
		{"16", "15", true}, {"15", "16", false}, {"16", "1+1", false}, {"2+1", "2+1", true}, {"2+1", "2+1+1", false}, {"2+1+1", "2+1", true}, {"8+8", "8+7", true}, {"8+7", "8+8", false},
	} {
		wantTruth(t, fmt.Sprintf("HasInside(%s, %s)", c.p, c.q), impl.HasInside(parse(t, c.p), parse(t, c.q)), c.want)
	}
}

func wantCut(t *testing.T, p, q []int, both, either []int, want bool) {
	t.Helper()
	gotBoth, gotEither, ok := impl.CutInside(p, q)
	what := fmt.Sprintf("CutInside(%s, %s)", brief(p), brief(q))
	wantParts(t, what, gotBoth, ok, both, want)
	wantParts(t, "other parts of "+what, gotEither, ok, either, want)
}

func TestCutInside(t *testing.T) {
	for _, p := range everyParts(maxSum) {
		for _, q := range slices.Concat(everyParts(8), partsBySum[maxSum][:20]) {
			both, either, ok := plainCut(p, q)
			wantCut(t, p, q, both, either, ok)
			wantCut(t, q, p, both, either, ok)
		}
	}
	withWrong(func(p, q []int) {
		wantCut(t, p, q, nil, nil, false)
	})
}

func TestCutInsideByText(t *testing.T) {
	for _, c := range []struct{ p, q, both, either string }{
		{"", "", "", ""}, {"1", "", "", "1"}, {"4+1+1", "3+3", "3+1", "4+3+1"}, {"16", "16", "16", "16"}, {"16", "", "", "16"}, {"15", "1+1", "1", "15+1"},
		{"1+1+1+1+1+1+1+1", "9", "1", "9+1+1+1+1+1+1+1"}, {"8+8", "3+2", "3+2", "8+8"}, {"8+7", "7+7+1", "7+7", "8+7+1"}, {"5+3", "4+4+2+1", "4+3", "5+4+2+1"},
	} {
		wantCut(t, parse(t, c.p), parse(t, c.q), parse(t, c.both), parse(t, c.either), true)
		wantCut(t, parse(t, c.q), parse(t, c.p), parse(t, c.both), parse(t, c.either), true)
	}
	for _, c := range [][2]string{
		{"16", "1+1"}, {"15", "1+1+1"}, {"8+8", "9"}, {"8+8", "1+1+1"}, {"16", "1+1+1+1+1+1+1+1+1+1+1+1+1+1+1+1"}, {"1+1+1+1+1+1+1+1+1", "9"}, {"9+7", "8+8"},
	} {
		wantCut(t, parse(t, c[0]), parse(t, c[1]), nil, nil, false)
		wantCut(t, parse(t, c[1]), parse(t, c[0]), nil, nil, false)
	}
}

// TestCutInsideBySearch finds what is inside of both, and what has both inside, as the document says it: the greatest and the least of all such.
func TestCutInsideBySearch(t *testing.T) {
	for _, p := range everyParts(7) {
		for _, q := range everyParts(7) {
			both, either, ok := impl.CutInside(p, q)
			if !ok {
				t.Fatalf("CutInside(%v, %v): false", p, q)
			}
			for _, r := range everyParts(maxSum) {
				if got := hasInsidePlainly(both, r); got != (hasInsidePlainly(p, r) && hasInsidePlainly(q, r)) {
					t.Fatalf("CutInside(%v, %v) = %v first, which has %v inside: %v", p, q, both, r, got)
				}
				if got := hasInsidePlainly(r, either); got != (hasInsidePlainly(r, p) && hasInsidePlainly(r, q)) {
					t.Fatalf("CutInside(%v, %v) = %v second, which is inside of %v: %v", p, q, either, r, got)
				}
			}
		}
	}
}

func wantChain(t *testing.T, p, q []int, want [][]int, wantOK bool) {
	t.Helper()
	chain, ok := impl.ChainDown(p, q)
	what := fmt.Sprintf("ChainDown(%s, %s)", brief(p), brief(q))
	wantRows(t, what, chain, want)
	wantTruth(t, "whether there is "+what, ok, wantOK)
}

func TestChainDown(t *testing.T) {
	everyTwo(maxList, func(n, i, k int, p, q []int) {
		if belowBySum[n][i][k] {
			wantChain(t, p, q, chainPlainly(n, i, k), true)
		} else {
			wantChain(t, p, q, nil, false)
		}
	})
	none := func(p, q []int) {
		wantChain(t, p, q, nil, false)
	}
	for n := maxList + 1; n <= maxSum; n++ {
		for _, p := range partsBySum[n] {
			none(p, p)
			none(partsBySum[n][0], p)
		}
	}
	withTwoSums(none)
	withWrong(none)
}

func TestChainDownByText(t *testing.T) {
	for _, c := range []struct{ p, q, chain string }{
		{"", "", "-"}, {"1", "1", "1"}, {"3+3", "3+3", "3+3"}, {"12", "12", "12"}, {"2", "1+1", "2 1+1"}, {"4+2", "2+2+2", "4+2 4+1+1 3+2+1 2+2+2"}, {"4+2", "3+3", "4+2 3+3"},
		{"6", "1+1+1+1+1+1", "6 5+1 4+2 4+1+1 3+2+1 3+1+1+1 2+2+1+1 2+1+1+1+1 1+1+1+1+1+1"}, {"12", "9+3", "12 11+1 10+2 9+3"},
		{"4+1+1", "3+3", ""}, {"3+3", "4+1+1", ""}, {"1+1", "2", ""}, {"2", "1", ""}, {"1", "", ""}, {"", "1", ""}, {"13", "13", ""}, {"13", "12+1", ""}, {"16", "16", ""},
	} {
		wantChain(t, parse(t, c.p), parse(t, c.q), fieldsOf(t, c.chain), c.chain != "")
	}
}
