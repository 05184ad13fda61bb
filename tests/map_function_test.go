package tests

import (
	"fmt"
	"math"
	"slices"
	"testing"

	"loop.example/numberparts/impl"
)

// merging and splitting are the ways of one number of equal parts.
func merging(m int) func(p []int) ([]int, bool) {
	return func(p []int) ([]int, bool) { return impl.MergeEqual(p, m) }
}

func splitting(m int) func(p []int) ([]int, bool) {
	return func(p []int) ([]int, bool) { return impl.SplitEqual(p, m) }
}

func TestMergeEqualAndSplitEqual(t *testing.T) {
	for m := 2; m <= maxSum; m++ {
		wantWay(t, fmt.Sprintf("MergeEqual by %d", m), merging(m), func(p []int) ([]int, bool) { return plainMerge(p, m) })
		wantWay(t, fmt.Sprintf("SplitEqual by %d", m), splitting(m), func(p []int) ([]int, bool) { return plainSplit(p, m) })
	}
}

func TestMergeEqualByText(t *testing.T) {
	wantTexts(t, "MergeEqual by 2", merging(2), [][2]string{
		{"", ""}, {"1", "1"}, {"5+3+1", "5+3+1"}, {"1+1", "2"}, {"1+1+1", "2+1"}, {"1+1+1+1", "4"}, {"3+3+3+1+1+1", "6+3+2+1"},
		{"1+1+1+1+1+1+1+1+1+1+1+1+1+1+1+1", "16"}, {"1+1+1+1+1+1+1+1+1+1+1+1+1+1+1", "8+4+2+1"}, {"3+3+3+3+1+1+1+1", "12+4"},
		{"2", "-"}, {"16", "-"}, {"3+2", "-"}, {"4+3+3+1", "-"}, {"8+8", "-"},
	})
	wantTexts(t, "MergeEqual by 3", merging(3), [][2]string{
		{"1+1", "1+1"}, {"2+2+2+1+1+1", "6+3"}, {"1+1+1+1+1+1+1+1+1", "9"}, {"4+4+4+2+1+1", "12+2+1+1"}, {"16", "16"}, {"3", "-"}, {"15+1", "-"},
	})
	wantTexts(t, "MergeEqual by 16", merging(16), [][2]string{
		{"1+1+1+1+1+1+1+1+1+1+1+1+1+1+1+1", "16"}, {"1+1+1+1+1+1+1+1+1+1+1+1+1+1+1", "1+1+1+1+1+1+1+1+1+1+1+1+1+1+1"}, {"15+1", "15+1"}, {"", ""}, {"16", "-"},
	})
}

func TestSplitEqualByText(t *testing.T) {
	wantTexts(t, "SplitEqual by 2", splitting(2), [][2]string{
		{"", ""}, {"1", "1"}, {"5+3+1", "5+3+1"}, {"2", "1+1"}, {"2+1", "1+1+1"}, {"4", "1+1+1+1"}, {"6+3+2+1", "3+3+3+1+1+1"},
		{"16", "1+1+1+1+1+1+1+1+1+1+1+1+1+1+1+1"}, {"8+4+2+1", "1+1+1+1+1+1+1+1+1+1+1+1+1+1+1"}, {"12+4", "3+3+3+3+1+1+1+1"},
		{"1+1", "-"}, {"8+8", "-"}, {"3+1+1+1", "-"}, {"5+3+3", "-"}, {"5+5+1", "-"},
	})
	wantTexts(t, "SplitEqual by 3", splitting(3), [][2]string{
		{"1+1", "1+1"}, {"6+3", "2+2+2+1+1+1"}, {"9", "1+1+1+1+1+1+1+1+1"}, {"8+8", "8+8"}, {"6+6", "2+2+2+2+2+2"}, {"1+1+1", "-"}, {"2+2+2+2", "-"},
	})
	wantTexts(t, "SplitEqual by 16", splitting(16), [][2]string{
		{"16", "1+1+1+1+1+1+1+1+1+1+1+1+1+1+1+1"}, {"8+8", "8+8"}, {"", ""}, {"1+1+1+1+1+1+1+1+1+1+1+1+1+1+1+1", "-"},
	})
}

func TestMergeEqualAndSplitEqualByWrongNumbers(t *testing.T) {
	for _, m := range wrongBundles {
		for _, p := range slices.Concat(everyParts(8), partsBySum[maxSum], wrongNumbers) {
			q, ok := impl.MergeEqual(p, m)
			wantParts(t, fmt.Sprintf("MergeEqual(%.100v, %d)", fmt.Sprint(p), m), q, ok, nil, false)
			q, ok = impl.SplitEqual(p, m)
			wantParts(t, fmt.Sprintf("SplitEqual(%.100v, %d)", fmt.Sprint(p), m), q, ok, nil, false)
		}
	}
}

func TestHooksToOdd(t *testing.T) {
	wantWay(t, "HooksToOdd", impl.HooksToOdd, func(p []int) ([]int, bool) {
		if !isKindPlainly("self", p) {
			return nil, false
		}
		return plainHooksToOdd(p), true
	})
	wantTexts(t, "HooksToOdd", impl.HooksToOdd, [][2]string{
		{"", ""}, {"1", "1"}, {"2+1", "3"}, {"2+2", "3+1"}, {"3+3+3", "5+3+1"}, {"4+4+4+4", "7+5+3+1"}, {"5+3+2+1+1", "9+3"}, {"8+1+1+1+1+1+1+1", "15"},
		{"2", "-"}, {"1+1", "-"}, {"3+2", "-"}, {"4+4", "-"}, {"7+3", "-"}, {"16", "-"},
	})
}

func TestOddToHooks(t *testing.T) {
	back := wayBack{}
	for _, p := range everyParts(maxSum) {
		if isKindPlainly("self", p) {
			back.add(t, plainText(plainHooksToOdd(p)), p)
		}
	}
	wantWay(t, "OddToHooks", impl.OddToHooks, func(p []int) ([]int, bool) {
		if !isKindPlainly("distinctodd", p) {
			return nil, false
		}
		return back.find(plainText(p))
	})
	wantTexts(t, "OddToHooks", impl.OddToHooks, [][2]string{
		{"", ""}, {"1", "1"}, {"3", "2+1"}, {"3+1", "2+2"}, {"5+3+1", "3+3+3"}, {"7+5+3+1", "4+4+4+4"}, {"9+3", "5+3+2+1+1"}, {"15+1", "8+2+1+1+1+1+1+1"}, {"9+7", "5+5+2+2+2"},
		{"2", "-"}, {"1+1", "-"}, {"3+2", "-"}, {"5+5", "-"}, {"7+7+1", "-"}, {"16", "-"},
	})
}

func TestFranklinMap(t *testing.T) {
	wantWay(t, "FranklinMap", impl.FranklinMap, plainFranklin)
	wantTexts(t, "FranklinMap", impl.FranklinMap, [][2]string{
		{"3", "2+1"}, {"2+1", "3"}, {"3+1", "4"}, {"4", "3+1"}, {"16", "15+1"}, {"15+1", "16"}, {"5+4", "4+3+2"}, {"4+3+2", "5+4"}, {"3+2+1", "4+2"}, {"4+2", "3+2+1"},
		{"9+7", "8+7+1"}, {"5+4+3+2+1", "6+4+3+2"}, {"6+5+3+2", "7+6+3"}, {"7+6+3", "6+5+3+2"}, {"7+5+3+1", "8+5+3"},
		{"", "-"}, {"1", "-"}, {"2", "-"}, {"3+2", "-"}, {"4+3", "-"}, {"5+4+3", "-"}, {"6+5+4", "-"}, {"1+1", "-"}, {"5+3+3", "-"}, {"8+8", "-"},
	})
}

func TestStairCut(t *testing.T) {
	for _, p := range everyParts(maxSum) {
		what := fmt.Sprintf("StairCut(%v)", p)
		left, steps, ok := impl.StairCut(p)
		if isKindPlainly("distinct", p) {
			wantParts(t, what, left, ok, plainStair(p), true)
			wantNumber(t, "steps of "+what, steps, len(p))
			continue
		}
		wantParts(t, what, left, ok, nil, false)
		wantNumber(t, "steps of "+what, steps, 0)
	}
	for _, p := range wrongNumbers {
		left, steps, ok := impl.StairCut(p)
		wantParts(t, fmt.Sprintf("StairCut(%.100v)", fmt.Sprint(p)), left, ok, nil, false)
		wantNumber(t, fmt.Sprintf("steps of %.100v", fmt.Sprint(p)), steps, 0)
	}
}

func TestStairCutByText(t *testing.T) {
	for _, c := range []struct {
		p, left string
		steps   int
	}{
		{"", "", 0}, {"1", "", 1}, {"2", "1", 1}, {"16", "15", 1}, {"2+1", "", 2}, {"3+1", "1", 2}, {"5+4+3+2+1", "", 5}, {"6+4+3+2+1", "1", 5}, {"9+7", "7+6", 2}, {"6+5+4", "3+3+3", 3},
	} {
		left, steps, ok := impl.StairCut(parse(t, c.p))
		wantParts(t, fmt.Sprintf("StairCut of %q", c.p), left, ok, parse(t, c.left), true)
		wantNumber(t, fmt.Sprintf("steps of %q", c.p), steps, c.steps)
	}
}

// wrongSides are numbers of no stair and no square.
var wrongSides = []int{-1, -2, 6, 7, 15, 16, 17, 18, 100, 1 << 16, 1 << 31, 1 << 32, 1<<32 + 1, -1 << 32, 1 << 62, -1 << 62, math.MaxInt, math.MaxInt - 1, math.MinInt, math.MinInt + 1}

func TestStairPut(t *testing.T) {
	back := stairsBack(t)
	for _, p := range everyParts(maxSum) {
		for k := -1; k <= maxSum+1; k++ {
			got, ok := impl.StairPut(p, k)
			want, wantOK := back.find(stairText(p, k))
			wantParts(t, fmt.Sprintf("StairPut(%v, %d)", p, k), got, ok, want, wantOK)
		}
		for _, k := range wrongSides {
			got, ok := impl.StairPut(p, k)
			wantParts(t, fmt.Sprintf("StairPut(%v, %d)", p, k), got, ok, nil, false)
		}
	}
	for k := 0; k <= 5; k++ {
		wantNoParts(t, fmt.Sprintf("StairPut on %d", k), func(p []int) ([]int, bool) { return impl.StairPut(p, k) })
	}
}

func TestStairPutByText(t *testing.T) {
	for _, c := range []struct {
		left  string
		steps int
		p     string
	}{
		{"", 0, ""}, {"", 1, "1"}, {"", 5, "5+4+3+2+1"}, {"1", 5, "6+4+3+2+1"}, {"15", 1, "16"}, {"3+3", 4, "7+6+2+1"}, {"6", 4, "10+3+2+1"}, {"2+2+2+2", 3, "-"},
		{"1", 0, "-"}, {"1+1", 1, "-"}, {"16", 1, "-"}, {"2", 5, "-"}, {"1+1", 5, "-"}, {"7", 4, "-"}, {"", 6, "-"}, {"", -1, "-"},
	} {
		wantTexts(t, fmt.Sprintf("StairPut on %d", c.steps), func(p []int) ([]int, bool) { return impl.StairPut(p, c.steps) }, [][2]string{{c.left, c.p}})
	}
}

func wantSquare(t *testing.T, p []int, side int, right []int, below []int) {
	t.Helper()
	gotSide, gotRight, gotBelow := impl.SquareCut(p)
	what := fmt.Sprintf("SquareCut(%.100v)", fmt.Sprint(p))
	wantNumber(t, "side of "+what, gotSide, side)
	wantList(t, "right of "+what, gotRight, right)
	wantList(t, "below of "+what, gotBelow, below)
}

func TestSquareCut(t *testing.T) {
	for _, p := range everyParts(maxSum) {
		side, right, below := plainSquare(p)
		wantSquare(t, p, side, right, below)
	}
	for _, p := range wrongNumbers {
		wantSquare(t, p, 0, nil, nil)
	}
}

// squares are parts, and their squares with what is to the right of them and below them.
var squares = []struct {
	p            string
	side         int
	right, below string
}{
	{"", 0, "", ""}, {"1", 1, "", ""}, {"2", 1, "1", ""}, {"1+1", 1, "", "1"}, {"16", 1, "15", ""}, {"2+2", 2, "", ""}, {"3+1", 1, "2", "1"},
	{"5+3+2+1+1", 2, "3+1", "2+1+1"}, {"4+4+4+4", 4, "", ""}, {"4+3+3+3+3", 3, "1", "3+3"}, {"7+4+4+1", 3, "4+1+1", "1"}, {"8+8", 2, "6+6", ""},
	{"1+1+1+1+1+1+1+1+1+1+1+1+1+1+1+1", 1, "", "1+1+1+1+1+1+1+1+1+1+1+1+1+1+1"}, {"2+2+2+2+2+2+2+2", 2, "", "2+2+2+2+2+2"},
}

func TestSquareCutAndSquarePutByText(t *testing.T) {
	for _, c := range squares {
		wantSquare(t, parse(t, c.p), c.side, parse(t, c.right), parse(t, c.below))
		got, ok := impl.SquarePut(c.side, parse(t, c.right), parse(t, c.below))
		wantParts(t, fmt.Sprintf("SquarePut(%d, %q, %q)", c.side, c.right, c.below), got, ok, parse(t, c.p), true)
	}
	for _, c := range []struct {
		side         int
		right, below string
	}{
		{0, "1", ""}, {0, "", "1"}, {0, "1", "1"}, {1, "1+1", ""}, {1, "", "2"}, {1, "", "2+1"}, {2, "1+1+1", ""}, {2, "", "3"}, {3, "1+1+1+1", ""}, {3, "", "4+1"},
		{1, "16", ""}, {1, "15", "1"}, {1, "", "1+1+1+1+1+1+1+1+1+1+1+1+1+1+1+1"}, {2, "13", ""}, {2, "6+6", "1"}, {3, "8", ""}, {3, "", "3+3+2"}, {3, "4", "3+1"},
		{4, "1", ""}, {4, "", "1"}, {5, "", ""}, {-1, "", ""}, {16, "", ""}, {17, "", ""},
	} {
		got, ok := impl.SquarePut(c.side, parse(t, c.right), parse(t, c.below))
		wantParts(t, fmt.Sprintf("SquarePut(%d, %q, %q)", c.side, c.right, c.below), got, ok, nil, false)
	}
}

func TestSquarePut(t *testing.T) {
	back := squaresBack(t)
	everyPair(func(right, below []int) {
		for side := -1; side <= 6; side++ {
			got, ok := impl.SquarePut(side, right, below)
			want, wantOK := back.find(squareText(side, right, below))
			wantParts(t, fmt.Sprintf("SquarePut(%d, %v, %v)", side, right, below), got, ok, want, wantOK)
		}
	})
	// These pairs are together beyond the limit.
	for _, right := range partsBySum[maxSum-3] {
		for _, below := range partsBySum[4] {
			for side := -1; side <= 5; side++ {
				got, ok := impl.SquarePut(side, right, below)
				wantParts(t, fmt.Sprintf("SquarePut(%d, %v, %v)", side, right, below), got, ok, nil, false)
			}
		}
	}
}

func TestSquarePutOfWrongArguments(t *testing.T) {
	good := everyParts(3)
	for _, wrong := range wrongNumbers {
		for _, p := range append(slices.Clone(good), wrong) {
			for side := 0; side <= 4; side++ {
				got, ok := impl.SquarePut(side, wrong, p)
				wantParts(t, fmt.Sprintf("SquarePut(%d, %.100v, %.100v)", side, fmt.Sprint(wrong), fmt.Sprint(p)), got, ok, nil, false)
				got, ok = impl.SquarePut(side, p, wrong)
				wantParts(t, fmt.Sprintf("SquarePut(%d, %.100v, %.100v)", side, fmt.Sprint(p), fmt.Sprint(wrong)), got, ok, nil, false)
			}
		}
	}
	for _, side := range append(slices.Clone(wrongSides), 5) {
		for _, right := range good {
			for _, below := range good {
				got, ok := impl.SquarePut(side, right, below)
				wantParts(t, fmt.Sprintf("SquarePut(%d, %v, %v)", side, right, below), got, ok, nil, false)
			}
		}
	}
}

func TestDoubleParts(t *testing.T) {
	wantWay(t, "DoubleParts", impl.DoubleParts, func(p []int) ([]int, bool) {
		var twice []int
		for _, part := range p {
			twice = append(twice, 2*part)
		}
		if total(twice) > maxSum {
			return nil, false
		}
		return twice, true
	})
	wantTexts(t, "DoubleParts", impl.DoubleParts, [][2]string{
		{"", ""}, {"1", "2"}, {"8", "16"}, {"4+3+1", "8+6+2"}, {"1+1+1+1+1+1+1+1", "2+2+2+2+2+2+2+2"}, {"9", "-"}, {"8+1", "-"}, {"1+1+1+1+1+1+1+1+1", "-"}, {"16", "-"},
	})
}
