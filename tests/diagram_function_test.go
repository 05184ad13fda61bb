package tests

import (
	"fmt"
	"math"
	"slices"
	"strings"
	"testing"

	"loop.example/numberparts/impl"
)

// everySmallList calls f with all lists of at most length numbers from least to most.
func everySmallList(length int, least int, most int, f func(list []int)) {
	var grow func(list []int)
	grow = func(list []int) {
		f(slices.Clone(list))
		if len(list) == length {
			return
		}
		for n := least; n <= most; n++ {
			grow(append(slices.Clone(list), n))
		}
	}
	grow(nil)
}

func TestValidParts(t *testing.T) {
	if !impl.ValidParts(nil) || !impl.ValidParts([]int{}) {
		t.Error("no parts are valid")
	}
	for _, p := range everyParts(maxSum) {
		if !impl.ValidParts(p) {
			t.Errorf("ValidParts(%v) = false", p)
		}
	}
	everySmallList(3, -2, maxSum+2, func(p []int) {
		if got := impl.ValidParts(p); got != arePartsPlainly(p) {
			t.Errorf("ValidParts(%v) = %v", p, got)
		}
	})
	for _, p := range wrongNumbers {
		if impl.ValidParts(p) {
			t.Errorf("ValidParts(%v) = true", p)
		}
	}
}

func TestSumOf(t *testing.T) {
	for n, list := range partsBySum {
		for _, p := range list {
			wantNumber(t, fmt.Sprintf("SumOf(%v)", p), impl.SumOf(p), n)
		}
	}
	wantNumber(t, "SumOf(nil)", impl.SumOf(nil), 0)
	for _, p := range wrongNumbers {
		wantNumber(t, fmt.Sprintf("SumOf(%v)", p), impl.SumOf(p), -1)
	}
}

func TestAllParts(t *testing.T) {
	for n := 0; n <= maxList; n++ {
		if all := impl.AllParts(n); !sameRows(all, partsBySum[n]) {
			t.Errorf("AllParts(%d) = %v", n, all)
		}
	}
	if got := strings.Join(textsOf(impl.AllParts(5)), " "); got != "5 4+1 3+2 3+1+1 2+2+1 2+1+1+1 1+1+1+1+1" {
		t.Errorf("AllParts(5) = %s", got)
	}
	for _, n := range wrongSums(maxList) {
		if all := impl.AllParts(n); all != nil {
			t.Errorf("AllParts(%d) = %v", n, all)
		}
	}
}

func TestCountParts(t *testing.T) {
	for n := 0; n <= maxCount; n++ {
		wantNumber(t, fmt.Sprintf("CountParts(%d)", n), impl.CountParts(n), manyParts[n])
	}
	for _, n := range wrongSums(maxCount) {
		wantNumber(t, fmt.Sprintf("CountParts(%d)", n), impl.CountParts(n), -1)
	}
}

func TestPlaceOf(t *testing.T) {
	for _, list := range partsBySum {
		for k, p := range list {
			wantNumber(t, fmt.Sprintf("PlaceOf(%v)", p), impl.PlaceOf(p), k)
		}
	}
	wantNumber(t, "PlaceOf(nil)", impl.PlaceOf(nil), 0)
	for _, p := range wrongNumbers {
		wantNumber(t, fmt.Sprintf("PlaceOf(%v)", p), impl.PlaceOf(p), -1)
	}
}

func TestPartsAt(t *testing.T) {
	for n, list := range partsBySum {
		for k, p := range list {
			got, ok := impl.PartsAt(n, k)
			wantParts(t, fmt.Sprintf("PartsAt(%d, %d)", n, k), got, ok, p, true)
		}
		for _, k := range wrongSums(len(list) - 1) {
			if k >= 0 && k < len(list) {
				continue
			}
			got, ok := impl.PartsAt(n, k)
			wantParts(t, fmt.Sprintf("PartsAt(%d, %d)", n, k), got, ok, nil, false)
		}
	}
	for _, n := range wrongSums(maxSum) {
		for _, k := range []int{0, 1, -1, 296, math.MaxInt, math.MinInt} {
			got, ok := impl.PartsAt(n, k)
			wantParts(t, fmt.Sprintf("PartsAt(%d, %d)", n, k), got, ok, nil, false)
		}
	}
}

func TestConjugateOf(t *testing.T) {
	for _, p := range everyParts(maxSum) {
		wantList(t, fmt.Sprintf("ConjugateOf(%v)", p), impl.ConjugateOf(p), plainConjugate(p))
	}
	wantList(t, "ConjugateOf(16)", impl.ConjugateOf([]int{16}), slices.Repeat([]int{1}, 16))
	for _, p := range wrongNumbers {
		wantList(t, fmt.Sprintf("ConjugateOf(%v)", p), impl.ConjugateOf(p), nil)
	}
}

func TestDurfeeOf(t *testing.T) {
	for _, p := range everyParts(maxSum) {
		wantNumber(t, fmt.Sprintf("DurfeeOf(%v)", p), impl.DurfeeOf(p), plainDurfee(p))
	}
	wantNumber(t, "DurfeeOf(nil)", impl.DurfeeOf(nil), 0)
	wantNumber(t, "DurfeeOf(4+4+4+4)", impl.DurfeeOf([]int{4, 4, 4, 4}), 4)
	for _, p := range wrongNumbers {
		wantNumber(t, fmt.Sprintf("DurfeeOf(%v)", p), impl.DurfeeOf(p), -1)
	}
}

func TestFrobeniusOf(t *testing.T) {
	for _, p := range everyParts(maxSum) {
		arms, legs := impl.FrobeniusOf(p)
		wantArms, wantLegs := plainFrobenius(p)
		wantList(t, fmt.Sprintf("arms of %v", p), arms, wantArms)
		wantList(t, fmt.Sprintf("legs of %v", p), legs, wantLegs)
	}
	arms, legs := impl.FrobeniusOf([]int{5, 5, 4, 1, 1})
	wantList(t, "arms of 5+5+4+1+1", arms, []int{4, 3, 1})
	wantList(t, "legs of 5+5+4+1+1", legs, []int{4, 1, 0})
	for _, p := range wrongNumbers {
		arms, legs := impl.FrobeniusOf(p)
		wantList(t, fmt.Sprintf("arms of %v", p), arms, nil)
		wantList(t, fmt.Sprintf("legs of %v", p), legs, nil)
	}
}

// partsByFrobenius returns all parts by the text of their arms and legs.
func partsByFrobenius() map[string][]int {
	byText := map[string][]int{}
	for _, p := range everyParts(maxSum) {
		arms, legs := plainFrobenius(p)
		byText[plainText(arms)+"|"+plainText(legs)] = p
	}
	return byText
}

func TestPartsOfFrobenius(t *testing.T) {
	byText := partsByFrobenius()
	check := func(arms, legs []int) {
		want, wantOK := byText[plainText(arms)+"|"+plainText(legs)]
		got, ok := impl.PartsOfFrobenius(arms, legs)
		wantParts(t, fmt.Sprintf("PartsOfFrobenius(%v, %v)", arms, legs), got, ok, want, wantOK)
	}
	for _, p := range everyParts(maxSum) {
		check(plainFrobenius(p))
	}
	var lists [][]int
	everySmallList(2, -1, maxSum, func(list []int) { lists = append(lists, list) })
	everySmallList(5, 0, 5, func(list []int) {
		if isFalling(list) {
			lists = append(lists, list)
		}
	})
	for _, arms := range lists {
		for _, legs := range lists {
			check(arms, legs)
		}
	}
}

func TestPartsOfFrobeniusOfWrongNumbers(t *testing.T) {
	check := func(arms, legs []int) {
		got, ok := impl.PartsOfFrobenius(arms, legs)
		wantParts(t, fmt.Sprintf("PartsOfFrobenius(%v, %v)", arms, legs), got, ok, nil, false)
	}
	wrong := [][]int{
		{-1}, {16}, {math.MaxInt}, {math.MinInt}, {1 << 32}, {1 << 62}, {-1 << 62},
		{0, 0}, {0, 1}, {1, -1}, {0, math.MinInt}, {math.MinInt, 0}, {math.MinInt + 1, math.MinInt},
		{math.MaxInt, 0}, {math.MaxInt, math.MaxInt - 1}, {1<<62 + 1, 1 << 62}, {math.MaxInt, 1, 0}, {math.MaxInt, 1, math.MinInt},
	}
	for _, list := range wrong {
		for _, other := range [][]int{nil, {0}, {1}, {1, 0}, {2, 1}, {2, 1, 0}} {
			check(list, other)
			check(other, list)
		}
		for _, other := range wrong {
			check(list, other)
		}
	}
	// Both are arms, but they are of other lengths, or too many cells.
	check(nil, []int{0})
	check([]int{1, 0}, []int{1})
	check([]int{8}, []int{8})
	check([]int{15}, []int{1})
	check([]int{4, 3, 2, 1, 0}, []int{4, 3, 2, 1, 0})
}

// plainHooks is HooksOf as the document says it.
func plainHooks(p []int) [][]int {
	turned := plainConjugate(p)
	hooks := make([][]int, len(p))
	for i, part := range p {
		for k := range part {
			hooks[i] = append(hooks[i], (part-k)+(turned[k]-i)-1)
		}
	}
	return hooks
}

func TestHooksOf(t *testing.T) {
	for _, p := range everyParts(maxSum) {
		if got := impl.HooksOf(p); !sameRows(got, plainHooks(p)) {
			t.Errorf("HooksOf(%v) = %v, want %v", p, got, plainHooks(p))
		}
	}
	if got := impl.HooksOf([]int{4, 3, 1}); !sameRows(got, [][]int{{6, 4, 3, 1}, {4, 2, 1}, {1}}) {
		t.Errorf("HooksOf(4+3+1) = %v", got)
	}
	for _, p := range wrongNumbers {
		if got := impl.HooksOf(p); len(got) != 0 {
			t.Errorf("HooksOf(%v) = %v", p, got)
		}
	}
}

// plainCorners is CornersOf as the document says it.
func plainCorners(p []int) []int {
	var corners []int
	for i := range p {
		if i == len(p)-1 || p[i] > p[i+1] {
			corners = append(corners, i)
		}
	}
	return corners
}

func TestCornersOf(t *testing.T) {
	for _, p := range everyParts(maxSum) {
		wantList(t, fmt.Sprintf("CornersOf(%v)", p), impl.CornersOf(p), plainCorners(p))
	}
	wantList(t, "CornersOf(16 ones)", impl.CornersOf(slices.Repeat([]int{1}, 16)), []int{15})
	for _, p := range wrongNumbers {
		wantList(t, fmt.Sprintf("CornersOf(%v)", p), impl.CornersOf(p), nil)
	}
}

// indicesFor returns indices in and around some parts, and far away.
func indicesFor(p []int) []int {
	indices := []int{math.MaxInt, math.MinInt, 1 << 32, -1 << 32, maxSum - 1, maxSum, maxSum + 1}
	for i := -2; i <= len(p)+2; i++ {
		indices = append(indices, i)
	}
	return indices
}

func TestRemoveCell(t *testing.T) {
	for _, p := range everyParts(maxSum) {
		for _, i := range indicesFor(p) {
			var want []int
			wantOK := slices.Contains(plainCorners(p), i)
			if wantOK {
				want = slices.Clone(p)
				want[i]--
				want = want[:atLeast(want, 1)]
			}
			got, ok := impl.RemoveCell(p, i)
			wantParts(t, fmt.Sprintf("RemoveCell(%v, %d)", p, i), got, ok, want, wantOK)
		}
	}
	for _, p := range wrongNumbers {
		for _, i := range indicesFor(p[:min(len(p), 4)]) {
			got, ok := impl.RemoveCell(p, i)
			wantParts(t, fmt.Sprintf("RemoveCell(%v, %d)", p, i), got, ok, nil, false)
		}
	}
}

func TestAddCell(t *testing.T) {
	for _, p := range everyParts(maxSum) {
		for _, i := range indicesFor(p) {
			var want []int
			if i >= 0 && i <= len(p) {
				want = append(slices.Clone(p), 0)
				want[i]++
				want = want[:atLeast(want, 1)]
			}
			wantOK := want != nil && arePartsPlainly(want)
			if !wantOK {
				want = nil
			}
			got, ok := impl.AddCell(p, i)
			wantParts(t, fmt.Sprintf("AddCell(%v, %d)", p, i), got, ok, want, wantOK)
		}
	}
	for _, p := range wrongNumbers {
		for _, i := range indicesFor(p[:min(len(p), 4)]) {
			got, ok := impl.AddCell(p, i)
			wantParts(t, fmt.Sprintf("AddCell(%v, %d)", p, i), got, ok, nil, false)
		}
	}
}

// plainUnion is UniteParts of parts whose sums are within the limit.
func plainUnion(p []int, q []int) []int {
	all := slices.Concat(p, q)
	slices.SortFunc(all, func(a, b int) int { return b - a })
	return all
}

// plainAddition is AddParts of parts whose sums are within the limit.
func plainAddition(p []int, q []int) []int {
	sums := make([]int, max(len(p), len(q)))
	for i := range sums {
		if i < len(p) {
			sums[i] += p[i]
		}
		if i < len(q) {
			sums[i] += q[i]
		}
	}
	return sums
}

// wantTogether checks what unites or adds two parts.
func wantTogether(t *testing.T, p []int, q []int) {
	t.Helper()
	united, unitedOK := impl.UniteParts(p, q)
	added, addedOK := impl.AddParts(p, q)
	var wantUnited, wantAdded []int
	fits := total(p)+total(q) <= maxSum
	if fits {
		wantUnited, wantAdded = plainUnion(p, q), plainAddition(p, q)
	}
	if unitedOK != fits || !slices.Equal(united, wantUnited) {
		t.Errorf("UniteParts(%v, %v) = %v, %v", p, q, united, unitedOK)
	}
	if addedOK != fits || !slices.Equal(added, wantAdded) {
		t.Errorf("AddParts(%v, %v) = %v, %v", p, q, added, addedOK)
	}
}

func TestUniteAndAddParts(t *testing.T) {
	for _, p := range everyParts(maxSum) {
		for _, q := range everyParts(maxSum) {
			wantTogether(t, p, q)
		}
	}
}

func TestUniteAndAddWrongNumbers(t *testing.T) {
	check := func(p, q []int) {
		got, ok := impl.UniteParts(p, q)
		wantParts(t, fmt.Sprintf("UniteParts(%v, %v)", p, q), got, ok, nil, false)
		got, ok = impl.AddParts(p, q)
		wantParts(t, fmt.Sprintf("AddParts(%v, %v)", p, q), got, ok, nil, false)
	}
	for _, p := range wrongNumbers {
		for _, q := range [][]int{nil, {1}, {2, 2}, {3, 1}, {16}} {
			check(p, q)
			check(q, p)
		}
		for _, q := range wrongNumbers {
			check(p, q)
		}
	}
	// Added up, or put together, these would be parts.
	check([]int{1, 2}, []int{3, 1})
	check([]int{1, -1}, []int{2, 2})
	check([]int{5, 0}, []int{1, 1})
	check([]int{1, 2}, []int{3})
	check([]int{math.MaxInt}, []int{math.MinInt + 4})
}

func TestTimesOf(t *testing.T) {
	for _, p := range everyParts(maxSum) {
		want := make([]int, greatest(p))
		for k := range want {
			want[k] = atLeast(p, k+1) - atLeast(p, k+2)
		}
		wantList(t, fmt.Sprintf("TimesOf(%v)", p), impl.TimesOf(p), want)
	}
	wantList(t, "TimesOf(5+2+2+1)", impl.TimesOf([]int{5, 2, 2, 1}), []int{1, 2, 0, 0, 1})
	for _, p := range wrongNumbers {
		wantList(t, fmt.Sprintf("TimesOf(%v)", p), impl.TimesOf(p), nil)
	}
}

func TestPartsText(t *testing.T) {
	for _, p := range everyParts(maxSum) {
		if got := impl.PartsText(p); got != plainText(p) {
			t.Errorf("PartsText(%v) = %q", p, got)
		}
	}
	if got := impl.PartsText([]int{10, 3, 3}); got != "10+3+3" {
		t.Errorf("PartsText(10+3+3) = %q", got)
	}
	for _, p := range wrongNumbers {
		if got := impl.PartsText(p); got != "" {
			t.Errorf("PartsText(%v) = %q", p, got)
		}
	}
}

func partsByText() map[string][]int {
	byText := map[string][]int{}
	for _, p := range everyParts(maxSum) {
		byText[plainText(p)] = p
	}
	return byText
}

func TestParseParts(t *testing.T) {
	byText := partsByText()
	for s, p := range byText {
		got, ok := impl.ParseParts(s)
		wantParts(t, fmt.Sprintf("ParseParts(%q)", s), got, ok, p, true)
	}
	letters := "01269+- "
	everySmallList(5, 0, len(letters)-1, func(list []int) {
		word := make([]byte, len(list))
		for i, n := range list {
			word[i] = letters[n]
		}
		s := string(word)
		p, known := byText[s]
		got, ok := impl.ParseParts(s)
		wantParts(t, fmt.Sprintf("ParseParts(%q)", s), got, ok, p, known)
	})
}

func TestParsePartsOfWrongTexts(t *testing.T) {
	wrong := []string{
		"+", "++", "1+", "+1", "1++1", "1+2", "0", "00", "01", "1+01", "-0", "-1", "1+-1", "1+0", "17", "16+1", "9+8",
		" ", " 1", "1 ", "1 +1", "1\n", "1\t", "1\x00", "\x00", "1,1", "1;1", "a", "1a", "0x1", "0b1", "0o1", "1_0", "1e0", "1.0", "1.",
		"\u0661", "\uff11", "\xff", "1+\xff", "\u00bd", "1\u00a0", "NaN", "four", "4+2+1 ", "4+2+1+", "4-2", "2*3", "(1)",
		"4294967297", "18446744073709551617", "18446744073709551616", "9223372036854775807", "9223372036854775808", "-9223372036854775808",
		"9223372036854775807+9223372036854775807+2", "4611686018427387904+4611686018427387904+4611686018427387904+4611686018427387904",
		strings.Repeat("1+", 16) + "1", strings.Repeat("1+", 100000) + "1", strings.Repeat("1", 100000), strings.Repeat("+", 100000), strings.Repeat("0", 100000) + "1",
	}
	for _, s := range wrong {
		if got, ok := impl.ParseParts(s); ok || len(got) != 0 {
			t.Errorf("ParseParts(%.40q) = %v, %v", s, got, ok)
		}
	}
	got, ok := impl.ParseParts("")
	wantParts(t, "ParseParts of no text", got, ok, nil, true)
}

// plainGrowths adds up the ways of all parts with 1 less, which is kept by text to be asked only once.
func plainGrowths(p []int, known map[string]int) int {
	if len(p) == 0 {
		return 1
	}
	key := plainText(p)
	if ways, ok := known[key]; ok {
		return ways
	}
	ways := 0
	for _, i := range plainCorners(p) {
		less := slices.Clone(p)
		less[i]--
		ways += plainGrowths(less[:atLeast(less, 1)], known)
	}
	known[key] = ways
	return ways
}

func TestGrowthsOf(t *testing.T) {
	known := map[string]int{}
	for _, p := range everyParts(maxList) {
		wantNumber(t, fmt.Sprintf("GrowthsOf(%v)", p), impl.GrowthsOf(p), plainGrowths(p, known))
	}
	for text, ways := range map[string]int{"": 1, "1": 1, "12": 1, "2+1": 2, "3+2": 5, "3+3": 5, "3+2+1": 16, "4+4+4": 462, "6+6": 132} {
		p, ok := impl.ParseParts(text)
		wantNumber(t, "GrowthsOf "+text, impl.GrowthsOf(must(t, text, p, ok)), ways)
	}
	for n := maxList + 1; n <= maxSum; n++ {
		for _, p := range partsBySum[n] {
			wantNumber(t, fmt.Sprintf("GrowthsOf(%v)", p), impl.GrowthsOf(p), -1)
		}
	}
	for _, p := range wrongNumbers {
		wantNumber(t, fmt.Sprintf("GrowthsOf(%v)", p), impl.GrowthsOf(p), -1)
	}
}

// plainDiagonals is DiagonalsOf as the document says it.
func plainDiagonals(p []int) []int {
	var lengths []int
	for difference := -maxSum; difference <= maxSum; difference++ {
		count := 0
		for i, part := range p {
			for k := range part {
				if k-i == difference {
					count++
				}
			}
		}
		if count > 0 {
			lengths = append(lengths, count)
		}
	}
	return lengths
}

func TestDiagonalsOf(t *testing.T) {
	for _, p := range everyParts(maxSum) {
		wantList(t, fmt.Sprintf("DiagonalsOf(%v)", p), impl.DiagonalsOf(p), plainDiagonals(p))
	}
	wantList(t, "DiagonalsOf(3+1)", impl.DiagonalsOf([]int{3, 1}), []int{1, 1, 1, 1})
	wantList(t, "DiagonalsOf(4+4+4+4)", impl.DiagonalsOf([]int{4, 4, 4, 4}), []int{1, 2, 3, 4, 3, 2, 1})
	for _, p := range wrongNumbers {
		wantList(t, fmt.Sprintf("DiagonalsOf(%v)", p), impl.DiagonalsOf(p), nil)
	}
}
