package impl

import (
	"iter"
	"strconv"
	"strings"
)

// MaxSum is the greatest sum of parts.
const MaxSum = 16

// MaxList is the greatest sum of which all parts are listed.
const MaxList = 12

// MaxCount is the greatest sum of which parts are counted.
const MaxCount = 40

// diagram is parts with 0 behind the last one, so that equal parts are equal arrays.
// Each part is at least 1, so MaxSum places are enough.
type diagram [MaxSum]int

// diagramOf returns the diagram of numbers, and whether they are parts.
// It takes each part from what is left of MaxSum, since a sum of any numbers could leave the range of int.
func diagramOf(p []int) (diagram, bool) {
	var d diagram
	left := MaxSum
	for i, part := range p {
		if part < 1 || part > left || i > 0 && part > p[i-1] {
			return diagram{}, false
		}
		d[i] = part
		left -= part
	}
	return d, true
}

// twoDiagrams returns the diagrams of p and q, and whether both are parts.
func twoDiagrams(p []int, q []int) (diagram, diagram, bool) {
	d, first := diagramOf(p)
	e, second := diagramOf(q)
	return d, e, first && second
}

// twoThatFit returns the diagrams of p and q, and whether both are parts with at most MaxSum together.
func twoThatFit(p []int, q []int) (diagram, diagram, bool) {
	d, e, ok := twoDiagrams(p, q)
	return d, e, ok && d.sum()+e.sum() <= MaxSum
}

func (d diagram) sum() int {
	sum := 0
	for _, part := range d {
		sum += part
	}
	return sum
}

func (d diagram) count() int {
	count := 0
	for count < MaxSum && d[count] > 0 {
		count++
	}
	return count
}

func (d diagram) list() []int {
	p := make([]int, d.count())
	copy(p, d[:])
	return p
}

func (d diagram) conjugate() diagram {
	var turned diagram
	for _, part := range d {
		for k := range part {
			turned[k]++
		}
	}
	return turned
}

func (d diagram) durfee() int {
	side := 0
	for side < MaxSum && d[side] > side {
		side++
	}
	return side
}

// arms returns how far each row of the diagonal goes beyond it.
func (d diagram) arms() []int {
	arms := make([]int, d.durfee())
	for i := range arms {
		arms[i] = d[i] - (i + 1)
	}
	return arms
}

func (d diagram) hooks() [][]int {
	turned := d.conjugate()
	hooks := make([][]int, d.count())
rows:
	for i, part := range d {
		for k, height := range turned {
			switch {
			case part == 0:
				break rows
			case k == part:
				continue rows
			}
			hooks[i] = append(hooks[i], part-k+height-i-1)
		}
	}
	return hooks
}

// isCorner reports whether the part with the index i may be less by 1.
func (d diagram) isCorner(i int) bool {
	return d[i] > 0 && (i == MaxSum-1 || d[i] > d[i+1])
}

func (d diagram) corners() []int {
	var corners []int
	for i := range d {
		if d.isCorner(i) {
			corners = append(corners, i)
		}
	}
	return corners
}

// unite takes the greater one of the next parts again and again.
// When one of both has none left, its 0 is less than each part of the other.
func (d diagram) unite(e diagram) diagram {
	var united diagram
	i, k := 0, 0
	for place := range united {
		if d[i] >= e[k] {
			united[place] = d[i]
			i++
		} else {
			united[place] = e[k]
			k++
		}
	}
	return united
}

func (d diagram) plus(e diagram) diagram {
	for i, part := range e {
		d[i] += part
	}
	return d
}

func (d diagram) text() string {
	var words []string
	for _, part := range d.list() {
		words = append(words, strconv.Itoa(part))
	}
	return strings.Join(words, "+")
}

func (d diagram) place() int {
	place := 0
	left := d.sum()
	most := left
	for _, part := range d.list() {
		for greater := min(most, left); greater > part; greater-- {
			place += countWithGreatest(left, greater)
		}
		left -= part
		most = part
	}
	return place
}

// diagonals begins with the diagonal of the last row, which is the only one with a cell so far from the right.
func (d diagram) diagonals() []int {
	rows := d.count()
	if rows == 0 {
		return nil
	}
	lengths := make([]int, rows-1+d[0])
	for i, part := range d {
		for k := range part {
			lengths[rows-1+k-i]++
		}
	}
	return lengths
}

// growth is a diagram and in how many ways one comes to it.
type growth struct {
	shape diagram
	ways  int
}

// growths goes back from d until nothing is left, a cell at a time.
func (d diagram) growths() int {
	level := []growth{{d, 1}}
	for range d.sum() {
		level = levelBelow(level)
	}
	return level[0].ways
}

// levelBelow returns what the diagrams of a level are with a cell less.
func levelBelow(level []growth) []growth {
	var below []growth
	for _, g := range level {
		for _, i := range g.shape.corners() {
			smaller := g.shape
			smaller[i]--
			below = addGrowth(below, growth{smaller, g.ways})
		}
	}
	return below
}

// addGrowth keeps equal diagrams once, because from there on their ways are the same.
func addGrowth(level []growth, g growth) []growth {
	for k := range level {
		if level[k].shape == g.shape {
			level[k].ways += g.ways
			return level
		}
	}
	return append(level, g)
}

// counts tells for each sum how many parts have it.
type counts [MaxCount + 1]int

// withMany returns the counts when a further number may come among the parts, any number of times.
// Each count is added to when it already counts the parts with this number, so that the number may come again.
func (c counts) withMany(part int) counts {
	for left := range MaxCount + 1 - part {
		c[left+part] += c[left]
	}
	return c
}

// countsBy returns the counts when add has let each number from 1 to most come among the parts.
func countsBy(most int, add func(c counts, part int) counts) counts {
	c := counts{1}
	for part := 1; part <= most; part++ {
		c = add(c, part)
	}
	return c
}

// countsUpTo returns for each sum how many parts have it, of which none is greater than most.
func countsUpTo(most int) counts {
	return countsBy(most, counts.withMany)
}

// countWithGreatest returns how many parts have a sum and begin with the part greatest.
func countWithGreatest(sum int, greatest int) int {
	return countsUpTo(greatest)[sum-greatest]
}

// diagramsFrom yields the first i parts of d with all that may stand behind them with the sum left, and reports whether more are wanted.
func diagramsFrom(d diagram, i int, left int, yield func(d diagram) bool) bool {
	if left == 0 {
		return yield(d)
	}
	most := left
	if i > 0 {
		most = min(left, d[i-1])
	}
	for part := most; part >= 1; part-- {
		d[i] = part
		if !diagramsFrom(d, i+1, left-part, yield) {
			return false
		}
	}
	return true
}

// diagramsWith goes over all diagrams with a sum, the one with the greater part at the first place where two differ first.
func diagramsWith(sum int) iter.Seq[diagram] {
	return func(yield func(d diagram) bool) {
		diagramsFrom(diagram{}, 0, sum, yield)
	}
}

// partsWhere returns the parts with a sum, of at most MaxSum, for which something holds.
func partsWhere(sum int, holds func(d diagram) bool) [][]int {
	var list [][]int
	for d := range diagramsWith(sum) {
		if holds(d) {
			list = append(list, d.list())
		}
	}
	return list
}

// listWhere returns the parts with a sum for which something holds, and nil for a sum of which parts are not listed.
func listWhere(sum int, holds func(d diagram) bool) [][]int {
	if sum < 0 || sum > MaxList {
		return nil
	}
	return partsWhere(sum, holds)
}

// areArms reports whether numbers could be the arms of parts, or their legs: then they are few and small enough to be added up.
func areArms(list []int) bool {
	for i, n := range list {
		if n < 0 || n >= MaxSum || i > 0 && n >= list[i-1] {
			return false
		}
	}
	return true
}

// aroundDiagonal returns the diagram with the arms and legs, which are with the diagonal no more than MaxSum.
func aroundDiagonal(arms []int, legs []int) diagram {
	var d diagram
	for i, arm := range arms {
		// The cells to the left of the diagonal are those of the legs ahead.
		d[i] += 1 + arm
		for k := range legs[i] {
			d[i+1+k]++
		}
	}
	return d
}

// ValidParts reports whether numbers are parts.
func ValidParts(p []int) bool {
	_, ok := diagramOf(p)
	return ok
}

// SumOf returns the sum of parts.
func SumOf(p []int) int {
	d, ok := diagramOf(p)
	if !ok {
		return -1
	}
	return d.sum()
}

// AllParts returns all parts with a sum.
func AllParts(n int) [][]int {
	return listWhere(n, func(d diagram) bool {
		return true
	})
}

// CountParts returns how many parts have a sum.
func CountParts(n int) int {
	if n < 0 || n > MaxCount {
		return -1
	}
	return countsUpTo(n)[n]
}

// PlaceOf returns how many parts of the same sum come ahead.
func PlaceOf(p []int) int {
	d, ok := diagramOf(p)
	if !ok {
		return -1
	}
	return d.place()
}

// PartsAt returns the parts at a place.
func PartsAt(n int, k int) ([]int, bool) {
	if n < 0 || n > MaxSum || k < 0 || k >= CountParts(n) {
		return nil, false
	}
	var d diagram
	most := n
	for i := 0; n > 0; i++ {
		part := min(most, n)
		for k >= countWithGreatest(n, part) {
			k -= countWithGreatest(n, part)
			part--
		}
		d[i] = part
		n -= part
		most = part
	}
	return d.list(), true
}

// ConjugateOf returns how many parts are at least each number.
func ConjugateOf(p []int) []int {
	d, ok := diagramOf(p)
	if !ok {
		return nil
	}
	return d.conjugate().list()
}

// DurfeeOf returns the side of the greatest square.
func DurfeeOf(p []int) int {
	d, ok := diagramOf(p)
	if !ok {
		return -1
	}
	return d.durfee()
}

// FrobeniusOf returns the arms and legs of the diagonal.
func FrobeniusOf(p []int) ([]int, []int) {
	d, ok := diagramOf(p)
	if !ok {
		return nil, nil
	}
	return d.arms(), d.conjugate().arms()
}

// PartsOfFrobenius returns the parts of arms and legs.
func PartsOfFrobenius(arms []int, legs []int) ([]int, bool) {
	if len(arms) != len(legs) || !areArms(arms) || !areArms(legs) {
		return nil, false
	}
	sum := len(arms)
	for i := range arms {
		sum += arms[i] + legs[i]
	}
	if sum > MaxSum {
		return nil, false
	}
	return aroundDiagonal(arms, legs).list(), true
}

// HooksOf returns the hooks of all cells.
func HooksOf(p []int) [][]int {
	d, ok := diagramOf(p)
	if !ok {
		return nil
	}
	return d.hooks()
}

// CornersOf returns the parts that may be less by 1.
func CornersOf(p []int) []int {
	d, ok := diagramOf(p)
	if !ok {
		return nil
	}
	return d.corners()
}

// RemoveCell returns parts with 1 less for one of them.
func RemoveCell(p []int, i int) ([]int, bool) {
	d, ok := diagramOf(p)
	if !ok || i < 0 || i >= len(p) || !d.isCorner(i) {
		return nil, false
	}
	d[i]--
	return d.list(), true
}

// AddCell returns parts with 1 more for one of them.
func AddCell(p []int, i int) ([]int, bool) {
	d, ok := diagramOf(p)
	if !ok || i < 0 || i > len(p) || d.sum() == MaxSum {
		return nil, false
	}
	d[i]++
	if i > 0 && d[i] > d[i-1] {
		return nil, false
	}
	return d.list(), true
}

// UniteParts returns all of two parts.
func UniteParts(p []int, q []int) ([]int, bool) {
	d, e, ok := twoThatFit(p, q)
	if !ok {
		return nil, false
	}
	return d.unite(e).list(), true
}

// AddParts returns the sums of two parts.
func AddParts(p []int, q []int) ([]int, bool) {
	d, e, ok := twoThatFit(p, q)
	if !ok {
		return nil, false
	}
	return d.plus(e).list(), true
}

// TimesOf returns how often each number comes.
func TimesOf(p []int) []int {
	d, ok := diagramOf(p)
	if !ok {
		return nil
	}
	times := make([]int, d[0])
	for _, part := range p {
		times[part-1]++
	}
	return times
}

// PartsText returns the text of parts.
func PartsText(p []int) string {
	d, ok := diagramOf(p)
	if !ok {
		return ""
	}
	return d.text()
}

// ParseParts returns the parts of a text.
func ParseParts(s string) ([]int, bool) {
	if s == "" {
		return nil, true
	}
	var p []int
	for _, word := range strings.Split(s, "+") {
		part, err := strconv.Atoi(word)
		if err != nil {
			return nil, false
		}
		p = append(p, part)
	}
	d, ok := diagramOf(p)
	// Atoi also reads numbers that are never written so, such as 01.
	if !ok || d.text() != s {
		return nil, false
	}
	return d.list(), true
}

// GrowthsOf returns in how many ways parts grow from none.
func GrowthsOf(p []int) int {
	d, ok := diagramOf(p)
	if !ok || d.sum() > MaxList {
		return -1
	}
	return d.growths()
}

// DiagonalsOf returns how many cells each diagonal has.
func DiagonalsOf(p []int) []int {
	d, ok := diagramOf(p)
	if !ok {
		return nil
	}
	return d.diagonals()
}
