package tests

import (
	"fmt"
	"math"
	"slices"
	"strings"
	"testing"

	"loop.example/numberparts/impl"
)

func TestInBox(t *testing.T) {
	everyInBox(func(p []int, a, b int) {
		wantTruth(t, fmt.Sprintf("InBox(%v, %d, %d)", p, a, b), impl.InBox(p, a, b), true)
	})
	everyOutOfBox(func(p []int, a, b int) {
		wantTruth(t, fmt.Sprintf("InBox(%s, %d, %d)", brief(p), a, b), impl.InBox(p, a, b), false)
	})
}

func TestInBoxByText(t *testing.T) {
	for _, c := range []struct {
		p    string
		a, b int
		want bool
	}{
		{"", 0, 0, true}, {"", 0, 4, true}, {"", 4, 0, true}, {"", 4, 4, true}, {"1", 0, 0, false}, {"1", 0, 1, false}, {"1", 1, 0, false}, {"1", 1, 1, true},
		{"3+1", 2, 3, true}, {"3+1", 1, 3, false}, {"3+1", 2, 2, false}, {"3+1", 3, 2, false}, {"3+1", 4, 4, true}, {"4+4+4+4", 4, 4, true}, {"4+4+4+4", 3, 4, false},
		{"4+4+4+4", 4, 3, false}, {"5", 4, 4, false}, {"5", 4, 5, false}, {"1+1+1+1+1", 4, 4, false}, {"1+1+1+1+1", 5, 4, false}, {"", 5, 0, false}, {"", 0, 5, false}, {"", -1, 0, false}, {"", 0, -1, false},
	} {
		wantTruth(t, fmt.Sprintf("InBox(%s, %d, %d)", c.p, c.a, c.b), impl.InBox(parse(t, c.p), c.a, c.b), c.want)
	}
}

func TestBoxRowAndBoxParts(t *testing.T) {
	everyBox(func(a, b int) {
		list := partsIn(a, b)
		row := make([]int, a*b+1)
		for _, p := range list {
			row[total(p)]++
		}
		wantList(t, fmt.Sprintf("BoxRow(%d, %d)", a, b), impl.BoxRow(a, b), row)
		wantRows(t, fmt.Sprintf("BoxParts(%d, %d)", a, b), impl.BoxParts(a, b), list)
	})
}

func TestBoxRowAndBoxPartsOfWrongSides(t *testing.T) {
	none := func(a, b int) {
		wantList(t, fmt.Sprintf("BoxRow(%d, %d)", a, b), impl.BoxRow(a, b), nil)
		wantRows(t, fmt.Sprintf("BoxParts(%d, %d)", a, b), impl.BoxParts(a, b), nil)
	}
	for _, wrong := range wrongSums(maxSide) {
		for side := range maxSide + 1 {
			none(wrong, side)
			none(side, wrong)
		}
		for _, other := range wrongSums(maxSide) {
			none(wrong, other)
		}
	}
}

func TestBoxRowAndBoxPartsByText(t *testing.T) {
	for _, c := range []struct {
		a, b  int
		row   []int
		parts string
	}{
		{0, 0, []int{1}, "-"}, {0, 4, []int{1}, "-"}, {4, 0, []int{1}, "-"}, {1, 1, []int{1, 1}, "- 1"}, {1, 4, []int{1, 1, 1, 1, 1}, "- 1 2 3 4"},
		{4, 1, []int{1, 1, 1, 1, 1}, "- 1 1+1 1+1+1 1+1+1+1"}, {2, 2, []int{1, 1, 2, 1, 1}, "- 1 2 1+1 2+1 2+2"},
		{2, 3, []int{1, 1, 2, 2, 2, 1, 1}, "- 1 2 1+1 3 2+1 3+1 2+2 3+2 3+3"}, {3, 2, []int{1, 1, 2, 2, 2, 1, 1}, "- 1 2 1+1 2+1 1+1+1 2+2 2+1+1 2+2+1 2+2+2"},
	} {
		wantList(t, fmt.Sprintf("BoxRow(%d, %d)", c.a, c.b), impl.BoxRow(c.a, c.b), c.row)
		wantRows(t, fmt.Sprintf("BoxParts(%d, %d)", c.a, c.b), impl.BoxParts(c.a, c.b), fieldsOf(t, c.parts))
	}
	wantList(t, "BoxRow(4, 4)", impl.BoxRow(4, 4), []int{1, 1, 2, 3, 5, 5, 7, 7, 8, 7, 7, 5, 5, 3, 2, 1, 1})
	wantList(t, "BoxRow(3, 4)", impl.BoxRow(3, 4), []int{1, 1, 2, 3, 4, 4, 5, 4, 4, 3, 2, 1, 1})
}

func TestOppositeInAndPathOf(t *testing.T) {
	everyInBox(func(p []int, a, b int) {
		q, ok := impl.OppositeIn(p, a, b)
		wantParts(t, fmt.Sprintf("OppositeIn(%v, %d, %d)", p, a, b), q, ok, plainOpposite(p, a, b), true)
		if path, want := impl.PathOf(p, a, b), plainPath(p, a, b); path != want {
			t.Errorf("PathOf(%v, %d, %d) = %q, want %q", p, a, b, path, want)
		}
	})
	everyOutOfBox(func(p []int, a, b int) {
		q, ok := impl.OppositeIn(p, a, b)
		wantParts(t, fmt.Sprintf("OppositeIn(%s, %d, %d)", brief(p), a, b), q, ok, nil, false)
		if path := impl.PathOf(p, a, b); path != "" {
			t.Errorf("PathOf(%s, %d, %d) = %q", brief(p), a, b, path)
		}
	})
}

func wantPath(t *testing.T, s string, p []int, a, b int, want bool) {
	t.Helper()
	got, gotA, gotB, ok := impl.PartsOfPath(s)
	if ok != want || !slices.Equal(got, p) || gotA != a || gotB != b {
		t.Errorf("PartsOfPath(%.100q) = %v, %d, %d, %v, want %v, %d, %d, %v", s, got, gotA, gotB, ok, p, a, b, want)
	}
}

// TestStepsByText has steps that go all one way among others.
func TestStepsByText(t *testing.T) {
	for _, c := range []struct {
		p    string
		a, b int
		path string
		left string
	}{
		{"", 0, 0, "", ""}, {"", 0, 1, "e", ""}, {"", 0, 4, "eeee", ""}, {"", 1, 0, "n", ""}, {"", 4, 0, "nnnn", ""}, {"", 1, 1, "ne", "1"}, {"1", 1, 1, "en", ""},
		{"3+1", 3, 4, "neneene", "4+3+1"}, {"3+1", 2, 3, "eneen", "2"}, {"", 4, 4, "nnnneeee", "4+4+4+4"}, {"4+4+4+4", 4, 4, "eeeennnn", ""}, {"4+3+2+1", 4, 4, "enenenen", "3+2+1"},
		{"3+2+1", 4, 4, "nenenene", "4+3+2+1"}, {"2+2", 2, 4, "eennee", "2+2"}, {"4", 1, 4, "eeeen", ""}, {"1+1+1+1", 4, 1, "ennnn", ""}, {"1+1", 4, 1, "nnenn", "1+1"},
	} {
		p := parse(t, c.p)
		q, ok := impl.OppositeIn(p, c.a, c.b)
		wantParts(t, fmt.Sprintf("OppositeIn(%s, %d, %d)", c.p, c.a, c.b), q, ok, parse(t, c.left), true)
		if path := impl.PathOf(p, c.a, c.b); path != c.path {
			t.Errorf("PathOf(%s, %d, %d) = %q, want %q", c.p, c.a, c.b, path, c.path)
		}
		wantPath(t, c.path, p, c.a, c.b, true)
	}
}

func TestPartsOfPath(t *testing.T) {
	back := pathsBack(t)
	wantNumber(t, "paths", len(back), 251)
	everyText("en", 2*maxSide+2, func(s string) {
		b, ok := back[s]
		wantPath(t, s, parse(t, b.text), b.a, b.b, ok)
	})
}

func TestPartsOfPathOfWrongTexts(t *testing.T) {
	everyText("enx", 5, func(s string) {
		if strings.Contains(s, "x") {
			wantPath(t, s, nil, 0, 0, false)
		}
	})
	for letter := range 256 {
		if letter == 'e' || letter == 'n' {
			continue
		}
		wrong := string([]byte{byte(letter)})
		for _, s := range []string{wrong, wrong + "neneene", "nen" + wrong + "eene", "nen" + wrong + "ene", "neneene" + wrong, wrong + wrong} {
			wantPath(t, s, nil, 0, 0, false)
		}
	}
	for _, s := range []string{
		"nnnnn", "eeeee", "nnnnneeee", "eeeeennnn", "eeeennnne", "eeeennnnn", "enenenenn", "nenenenee", "nnnnnx", "é", "ｅ", "ｎ", "ť", "Ů", "nŮ", "neťene", "EN", "north", "east", "en en", "en\n", "3+1", "-",
		strings.Repeat("n", maxSum), strings.Repeat("n", maxSum+1), strings.Repeat("n", 257), strings.Repeat("e", 1<<16), strings.Repeat("en", 1<<16), strings.Repeat("n", 1<<20),
	} {
		wantPath(t, s, nil, 0, 0, false)
	}
}

func TestValidSums(t *testing.T) {
	for _, c := range everySums(maxSum) {
		if !impl.ValidSums(c) {
			t.Fatalf("ValidSums(%v) = false", c)
		}
	}
	if !impl.ValidSums(nil) || !impl.ValidSums([]int{}) {
		t.Error("no summands are valid")
	}
	everySmallList(3, -2, maxSum+2, func(c []int) {
		wantTruth(t, fmt.Sprintf("ValidSums(%v)", c), impl.ValidSums(c), areSumsPlainly(c))
	})
	for _, c := range wrongSummands {
		wantTruth(t, fmt.Sprintf("ValidSums(%s)", brief(c)), impl.ValidSums(c), false)
	}
}

func TestMaskOf(t *testing.T) {
	for _, list := range sumsByMask {
		for mask, c := range list {
			if got := impl.MaskOf(c); got != mask {
				t.Fatalf("MaskOf(%v) = %d, want %d", c, got, mask)
			}
		}
	}
	for _, c := range wrongSummands {
		wantNumber(t, fmt.Sprintf("MaskOf(%s)", brief(c)), impl.MaskOf(c), -1)
	}
}

func TestSumsOfMask(t *testing.T) {
	for n, list := range sumsByMask {
		for mask, want := range list {
			c, ok := impl.SumsOfMask(n, mask)
			if !ok || !slices.Equal(c, want) {
				t.Fatalf("SumsOfMask(%d, %d) = %v, %v, want %v", n, mask, c, ok, want)
			}
		}
		for _, mask := range []int{len(list), len(list) + 1, 2 * len(list), -1, -2, -len(list), 1 << 15, 1 << 16, 1 << 32, 1 << 62, math.MaxInt, math.MinInt} {
			c, ok := impl.SumsOfMask(n, mask)
			wantParts(t, fmt.Sprintf("SumsOfMask(%d, %d)", n, mask), c, ok, nil, false)
		}
	}
	for _, n := range append(wrongSums(maxSum), 63, 64, 65, -63, -64) {
		for _, mask := range []int{0, 1, 2, -1, 1 << 15, 1<<16 - 1, 1 << 16, math.MaxInt, math.MinInt} {
			c, ok := impl.SumsOfMask(n, mask)
			wantParts(t, fmt.Sprintf("SumsOfMask(%d, %d)", n, mask), c, ok, nil, false)
		}
	}
}

func TestAllSums(t *testing.T) {
	for n := range maxSums + 1 {
		wantRows(t, fmt.Sprintf("AllSums(%d)", n), impl.AllSums(n), sumsByMask[n])
	}
	for _, n := range append(wrongSums(maxSums), maxSum, maxSum+1, 63, 64, 65) {
		wantRows(t, fmt.Sprintf("AllSums(%d)", n), impl.AllSums(n), nil)
	}
	for n, texts := range []string{"-", "1", "2 1+1", "3 1+2 2+1 1+1+1", "4 1+3 2+2 1+1+2 3+1 1+2+1 2+1+1 1+1+1+1"} {
		wantRows(t, fmt.Sprintf("AllSums(%d)", n), impl.AllSums(n), fieldsOf(t, texts))
	}
}

func TestOppositeSumsPartsOfSumsAndTurnSums(t *testing.T) {
	for _, c := range everySums(maxSum) {
		wantSame(t, "OppositeSums", c, impl.OppositeSums(c), plainOppositeSums(c))
		wantSame(t, "PartsOfSums", c, impl.PartsOfSums(c), sorted(c))
		wantSame(t, "TurnSums", c, impl.TurnSums(c), turned(c))
	}
	for _, c := range wrongSummands {
		wantList(t, fmt.Sprintf("OppositeSums(%s)", brief(c)), impl.OppositeSums(c), nil)
		wantList(t, fmt.Sprintf("PartsOfSums(%s)", brief(c)), impl.PartsOfSums(c), nil)
		wantList(t, fmt.Sprintf("TurnSums(%s)", brief(c)), impl.TurnSums(c), nil)
	}
}

// TestSummandsByText has summands of nothing, one summand and as many as can be among others.
func TestSummandsByText(t *testing.T) {
	for _, c := range []struct {
		c, opposite, parts, turned string
		mask                       int
	}{
		{"", "", "", "", 0}, {"1", "1", "1", "1", 0}, {"2", "1+1", "2", "2", 0}, {"1+1", "2", "1+1", "1+1", 1}, {"3", "1+1+1", "3", "3", 0}, {"1+2", "2+1", "2+1", "2+1", 1},
		{"2+1+3", "1+3+1+1", "3+2+1", "3+1+2", 6}, {"1+3+1+1", "2+1+3", "3+1+1+1", "1+1+3+1", 25}, {"3+3", "1+1+2+1+1", "3+3", "3+3", 4}, {"4+1", "1+1+1+2", "4+1", "1+4", 8},
		{"16", "1+1+1+1+1+1+1+1+1+1+1+1+1+1+1+1", "16", "16", 0}, {"1+1+1+1+1+1+1+1+1+1+1+1+1+1+1+1", "16", "1+1+1+1+1+1+1+1+1+1+1+1+1+1+1+1", "1+1+1+1+1+1+1+1+1+1+1+1+1+1+1+1", 32767},
		{"1+15", "2+1+1+1+1+1+1+1+1+1+1+1+1+1+1", "15+1", "15+1", 1}, {"15+1", "1+1+1+1+1+1+1+1+1+1+1+1+1+1+2", "15+1", "1+15", 16384}, {"8+8", "1+1+1+1+1+1+1+2+1+1+1+1+1+1+1", "8+8", "8+8", 128},
	} {
		from := numbersOf(t, c.c)
		wantNumber(t, fmt.Sprintf("MaskOf(%s)", c.c), impl.MaskOf(from), c.mask)
		wantList(t, fmt.Sprintf("OppositeSums(%s)", c.c), impl.OppositeSums(from), numbersOf(t, c.opposite))
		wantList(t, fmt.Sprintf("PartsOfSums(%s)", c.c), impl.PartsOfSums(from), numbersOf(t, c.parts))
		wantList(t, fmt.Sprintf("TurnSums(%s)", c.c), impl.TurnSums(from), numbersOf(t, c.turned))
		again, ok := impl.SumsOfMask(total(from), c.mask)
		wantParts(t, fmt.Sprintf("SumsOfMask(%d, %d)", total(from), c.mask), again, ok, from, true)
	}
}

func TestOrdersOf(t *testing.T) {
	many := map[string]int{}
	for _, c := range everySums(maxSum) {
		many[plainText(sorted(c))]++
	}
	for _, p := range everyParts(maxSum) {
		wantNumber(t, fmt.Sprintf("OrdersOf(%v)", p), impl.OrdersOf(p), many[plainText(p)])
	}
	for _, p := range wrongNumbers {
		wantNumber(t, fmt.Sprintf("OrdersOf(%s)", brief(p)), impl.OrdersOf(p), -1)
	}
	for _, c := range []struct {
		p    string
		want int
	}{
		{"", 1}, {"1", 1}, {"16", 1}, {"2+1", 2}, {"3+2+1", 6}, {"2+1+1", 3}, {"2+2+1+1", 6}, {"8+8", 1}, {"15+1", 2}, {"5+4+3+2+1+1", 360}, {"3+3+2+2+1+1+1+1+1+1", 1260},
		{"1+1+1+1+1+1+1+1+1+1+1+1+1+1+1+1", 1}, {"2+1+1+1+1+1+1+1+1+1+1+1+1+1+1", 15}, {"2+2+2+2+1+1+1+1+1+1+1+1", 495},
	} {
		wantNumber(t, fmt.Sprintf("OrdersOf(%s)", c.p), impl.OrdersOf(parse(t, c.p)), c.want)
	}
}

// wantLink checks both links of two summands; there are none for those that are together too many.
func wantLink(t *testing.T, c, d []int) {
	t.Helper()
	for _, near := range []bool{false, true} {
		var want []int
		wantOK := areSumsPlainly(c) && areSumsPlainly(d) && total(c)+total(d) <= maxSum
		if wantOK {
			want = plainLink(c, d, near)
		}
		got, ok := impl.LinkSums(c, d, near)
		if ok != wantOK || !slices.Equal(got, want) {
			t.Fatalf("LinkSums(%s, %s, %v) = %v, %v, want %v, %v", brief(c), brief(d), near, got, ok, want, wantOK)
		}
	}
}

func TestLinkSums(t *testing.T) {
	link := func(c, d []int) {
		wantLink(t, c, d)
	}
	everyTwoSums(11, link)
	for n := range maxSum + 1 {
		for m := range maxSum + 1 {
			someTwoSums(n, m, link)
		}
	}
	withWrongSums(link)
}

func TestLinkSumsByText(t *testing.T) {
	for _, c := range []struct{ c, d, far, near string }{
		{"", "", "", ""}, {"1", "", "1", "1"}, {"", "1", "1", "1"}, {"1", "1", "1+1", "2"}, {"2+1+3", "1+2", "2+1+3+1+2", "2+1+4+2"}, {"1+2", "2+1+3", "1+2+2+1+3", "1+4+1+3"},
		{"", "2+1", "2+1", "2+1"}, {"2+1", "", "2+1", "2+1"}, {"8", "8", "8+8", "16"}, {"1+7", "7+1", "1+7+7+1", "1+14+1"}, {"16", "", "16", "16"}, {"", "16", "16", "16"}, {"15", "1", "15+1", "16"}, {"1", "15", "1+15", "16"},
	} {
		from, to := numbersOf(t, c.c), numbersOf(t, c.d)
		wantList(t, fmt.Sprintf("LinkSums(%s, %s, false)", c.c, c.d), link(t, from, to, false), numbersOf(t, c.far))
		wantList(t, fmt.Sprintf("LinkSums(%s, %s, true)", c.c, c.d), link(t, from, to, true), numbersOf(t, c.near))
	}
	for _, c := range [][2]string{{"16", "1"}, {"1", "16"}, {"8", "9"}, {"9", "8"}, {"8+8", "1"}, {"16", "16"}, {"1+15", "1"}, {"17", ""}, {"", "17"}, {"0", ""}, {"", "0"}, {"0", "1"}, {"1", "0"}, {"1+0", "1"}} {
		for _, near := range []bool{false, true} {
			got, ok := impl.LinkSums(numbersOf(t, c[0]), numbersOf(t, c[1]), near)
			wantParts(t, fmt.Sprintf("LinkSums(%s, %s, %v)", c[0], c[1], near), got, ok, nil, false)
		}
	}
}

func wantFiner(t *testing.T, c, d []int) {
	t.Helper()
	want := areSumsPlainly(c) && areSumsPlainly(d) && isFinerPlainly(c, d)
	if got := impl.FinerSums(c, d); got != want {
		t.Fatalf("FinerSums(%s, %s) = %v", brief(c), brief(d), got)
	}
}

func TestFinerSums(t *testing.T) {
	finer := func(c, d []int) {
		wantFiner(t, c, d)
	}
	for n := range 10 {
		for _, c := range sumsByMask[n] {
			for _, d := range sumsByMask[n] {
				finer(c, d)
			}
		}
	}
	for n := range maxSum + 1 {
		for m := range maxSum + 1 {
			someTwoSums(n, m, finer)
		}
		for _, c := range sumsByMask[n] {
			finer(c, c)
			finer(c, sumsByMask[n][0])
			finer(sumsByMask[n][len(sumsByMask[n])-1], c)
		}
	}
	withWrongSums(finer)
}

func TestFinerSumsByText(t *testing.T) {
	for _, c := range []struct {
		c, d string
		want bool
	}{
		{"", "", true}, {"1", "1", true}, {"1+1", "2", true}, {"2", "1+1", false}, {"2+1+3", "3+3", true}, {"2+1+3", "2+4", true}, {"2+1+3", "6", true}, {"2+1+3", "2+1+3", true}, {"2+1+3", "1+5", false},
		{"2+1+3", "6+1", false}, {"2+1+3", "5+1", false}, {"2+1+3", "3+2+1", false}, {"3+3", "2+1+3", false}, {"1+2", "2+1", false}, {"2+1", "1+2", false}, {"1", "", false}, {"", "1", false}, {"1+1", "1", false},
		{"1+1", "3", false}, {"1+1+1", "1+1", false}, {"1+1", "1+1+1", false}, {"2+2+2", "4+2", true}, {"2+2+2", "3+3", false}, {"8+8", "16", true}, {"16", "16", true}, {"16", "8+8", false}, {"15", "16", false},
		{"1+1+1+1+1+1+1+1+1+1+1+1+1+1+1+1", "3+5+8", true}, {"17", "17", false}, {"0", "0", false}, {"0", "", false}, {"", "0", false}, {"1+0", "1", false}, {"1", "1+0", false}, {"9+8", "17", false},
	} {
		wantTruth(t, fmt.Sprintf("FinerSums(%s, %s)", c.c, c.d), impl.FinerSums(numbersOf(t, c.c), numbersOf(t, c.d)), c.want)
	}
}
