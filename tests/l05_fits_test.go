package tests

import (
	"fmt"
	"math"
	"slices"
	"testing"

	"loop.example/g01403/impl"
)

func TestFitsOfNumbersThatAreNotFinite(t *testing.T) {
	l, list := line(1, 1, 2, 1), []float32{1, 2, 1}
	lines := []impl.Line{l}
	for _, x := range notFinite() {
		what := " of " + say(x)
		wantFailing(t, []failing{
			{"RestOf, start" + what, fails(impl.RestOf(lines, list, x, 1))},
			{"RestOf, step" + what, fails(impl.RestOf(lines, list, 1, x))},
			{"RestOf no lines, start" + what, fails(impl.RestOf(nil, list, x, 1))},
			{"RestOf no lines, step" + what, fails(impl.RestOf(nil, list[:1], 1, x))},
			{"FitHeights, start" + what, fails(impl.FitHeights(lines, list, x, 1))},
			{"FitHeights, step" + what, fails(impl.FitHeights(lines, list[:1], 1, x))},
			{"FitLine, start" + what, fails(impl.FitLine(l, list, x, 1, 1))},
			{"FitLine, step" + what, fails(impl.FitLine(l, list, 1, x, 1))},
			{"CountLines, start" + what, fails(impl.CountLines([][]impl.Line{nil}, list, x, 1))},
			{"CountLines, step" + what, fails(impl.CountLines([][]impl.Line{nil}, list, 1, x))},
			{"CriterionOf" + what, fails(impl.CriterionOf(x, 3, 1))},
		})
	}
	wantFailing(t, []failing{
		{"RestOf at places that are not finite", fails(impl.RestOf(nil, list, greatest, greatest))},
		{"FitHeights at places that are not finite", fails(impl.FitHeights(lines, list, greatest, greatest))},
		{"FitLine at places that are not finite", fails(impl.FitLine(l, list, greatest, greatest, 1))},
		{"RestOf what is too great", fails(impl.RestOf(nil, []float32{1e20}, 0, 1))},
		{"RestOf lines that are too high", fails(impl.RestOf(repeatLine(line(0, greatest, 1, 0), 2), list, 0, 1))},
	})
}

// TestCountsOfLinesThatAreFitted tells how many there may be, 1 to 6.
func TestCountsOfLinesThatAreFitted(t *testing.T) {
	for _, n := range []int{0, 1, 5, 6, 7, 12, 13} {
		lines, want := make([]impl.Line, n), make([]impl.Line, n)
		list := make([]float32, 20)
		for i := range lines {
			lines[i], want[i] = line(float32(i), -7, 1, 3), line(float32(i), float32(i+1), 1, 3)
			list[i] = float32(i + 1)
		}
		fitted, ok := impl.FitHeights(lines, list, 0, 1)
		what := fmt.Sprintf("FitHeights of %d lines", n)
		if n < 1 || n > 6 {
			wantFailing(t, []failing{{what, fails(fitted, ok)}})
			continue
		}
		wantTold(t, []told{{what, say(fitted, ok), say(want, true)}})
	}
}

// TestLinesOnOneAnotherAreNotFitted has no heights for them, not even for only two of several.
func TestLinesOnOneAnotherAreNotFitted(t *testing.T) {
	list := []float32{1, 2, 3, 2, 1, 0.5, 0.25}
	for kind := range int64(4) {
		l, m := line(2, 1, 1.5, kind), line(4, 1, 1.5, kind)
		_, ok := impl.FitHeights([]impl.Line{l, m}, list, 0, 1)
		wantBool(t, "FitHeights of two lines", ok, true)
		for _, lines := range [][]impl.Line{
			{l, l}, {m, m}, {l, m, l}, {l, l, m}, {m, l, l}, {l, line(2, -5, 1.5, kind)}, {l, line(2, 1, 1.5000001, kind)}, repeatLine(l, 6),
		} {
			wantFailing(t, []failing{{"FitHeights of " + say(lines), fails(impl.FitHeights(lines, list, 0, 1))}})
		}
	}
	both := []impl.Line{line(2, 1, 1.5, 0), line(2, 1, 1.5, 1)}
	wantFailing(t, []failing{{"FitHeights of a line and both of its parts", fails(impl.FitHeights(append(both, line(2, 1, 1.5, 2)), list, 0, 1))}})
	if _, ok := impl.FitHeights(both, list, 0, 1); !ok {
		t.Error("FitHeights of lines of two kinds on one another fails")
	}
}

// TestLinesOfWhichListsTellNothing are too far away, between the places, or too many for them.
func TestLinesOfWhichListsTellNothing(t *testing.T) {
	list := []float32{1, 2, 3, 2, 1}
	wantFailing(t, []failing{
		{"FitHeights of a line that is far away", fails(impl.FitHeights([]impl.Line{line(50, 1, 1, 0)}, list, 0, 1))},
		{"FitHeights of a line between two places", fails(impl.FitHeights([]impl.Line{line(0.5, 1, 0.25, 3)}, list, 0, 1))},
		{"FitHeights of more lines than numbers", fails(impl.FitHeights([]impl.Line{line(0, 1, 1, 1), line(1, 1, 1, 1), line(2, 1, 1, 1)}, list[:2], 0, 1))},
		{"FitHeights of lines at one place only", fails(impl.FitHeights([]impl.Line{line(0, 1, 1, 1), line(1, 1, 1, 1)}, list, 0, 0))},
		{"FitHeights that are not finite", fails(impl.FitHeights([]impl.Line{line(0, 1, 1, 3)}, repeatNumber(greatest, 3), 0, 0))},
		{"FitLine far away", fails(impl.FitLine(line(50, 1, 1, 0), list, 0, 1, 1))},
		{"FitLine without height", fails(impl.FitLine(line(2, 0, 1, 0), list, 0, 1, 1))},
		{"FitLine of a width that cannot become more", fails(impl.FitLine(line(2, 1, greatest, 0), list, 0, 1, 1))},
		{"FitLine of a height that cannot become more", fails(impl.FitLine(line(2, greatest, 1, 0), []float32{greatest, greatest, greatest}, 2, 0, 1))},
	})
	_, ok := impl.FitHeights([]impl.Line{line(0, 1, 1, 1), line(1, 1, 1, 1)}, list[:2], 0, 1)
	wantBool(t, "FitHeights of as many lines as numbers", ok, true)
}

// TestRoundsOfFits does not go on, once a line does not fit better.
func TestRoundsOfFits(t *testing.T) {
	l := line(0.1, 1.5, 1, 0)
	for _, rounds := range []int64{math.MinInt64, -1, 0, 17, 1 << 32, math.MaxInt64} {
		wantFailing(t, []failing{{fmt.Sprintf("FitLine of %d rounds", rounds), fails(impl.FitLine(l, noisy, -2, 0.5, rounds))}})
	}
	_, rest, _ := impl.FitLine(l, noisy, -2, 0.5, 1)
	before, _ := impl.RestOf([]impl.Line{l}, noisy, -2, 0.5)
	wantBool(t, "a line fits better behind one round", rest < before, true)
	for rounds := int64(2); rounds <= 16; rounds++ {
		fitted, next, ok := impl.FitLine(l, noisy, -2, 0.5, rounds)
		wantBool(t, "FitLine", ok && next <= rest && fitted.Kind == 0, true)
		left, _ := impl.RestOf([]impl.Line{fitted}, noisy, -2, 0.5)
		wantBits(t, "what a line leaves", next, bitsOf(left))
		one, _, _ := impl.FitLine(l, noisy, -2, 0.5, rounds-1)
		again, _, _ := impl.FitLine(one, noisy, -2, 0.5, 1)
		wantTold(t, []told{{"FitLine once more", say(fitted), say(again)}})
		rest = next
	}
}

// TestLinesThatCannotFitBetterStay, as each next one would be no line, or leave more.
func TestLinesThatCannotFitBetterStay(t *testing.T) {
	for kind := range int64(4) {
		l := line(0, 1, 1, kind)
		list, _ := impl.SpectrumOf([]impl.Line{l}, -1.25, 0.5, 6)
		fitted, rest, ok := impl.FitLine(l, list, -1.25, 0.5, 16)
		wantTold(t, []told{{"FitLine of what fits", say(fitted, rest, ok), say(l, float32(0), true)}})
	}
	stays := []impl.Line{line(0, 1, 1, 1)}
	list := []float32{1, 0, -1, 0, 1}
	rest, _ := impl.RestOf(stays, list, -1, 0.5)
	fitted, left, ok := impl.FitLine(stays[0], list, -1, 0.5, 16)
	wantTold(t, []told{{"FitLine of what is no line", say(fitted, left, ok), say(stays[0], rest, true)}})
}

// TestShortListsAreNotFitted has three numbers at least for three changes.
func TestShortListsAreNotFitted(t *testing.T) {
	list := []float32{1, 2, 3, 2}
	for n := range 5 {
		_, _, ok := impl.FitLine(line(1, 1, 2, 1), list[:n], 0, 1, 1)
		wantBool(t, fmt.Sprintf("FitLine of %d numbers", n), ok, n >= 3)
	}
}

func TestCriteriaOfWrongNumbers(t *testing.T) {
	for _, x := range append(belowZero(), 0, minusZero) {
		wantFailing(t, []failing{{"CriterionOf " + say(x), fails(impl.CriterionOf(x, 3, 1))}})
	}
	for _, n := range []int64{math.MinInt64, -1, 0, 129, 1 << 32, math.MaxInt64} {
		for _, k := range []int64{0, 1, n - 1, n} {
			wantFailing(t, []failing{{fmt.Sprintf("CriterionOf %d and %d", n, k), fails(impl.CriterionOf(1, n, k))}})
		}
	}
	for _, n := range []int64{1, 2, 64, 128} {
		for _, k := range []int64{math.MinInt64, -1, n + 1, 1 << 32, math.MaxInt64} {
			wantFailing(t, []failing{{fmt.Sprintf("CriterionOf %d and %d", n, k), fails(impl.CriterionOf(1, n, k))}})
		}
		for k := range n + 1 {
			got, ok := impl.CriterionOf(0.75, n, k)
			wantBool(t, "CriterionOf", ok, true)
			want := float64(n)*math.Log(0.75/float64(n)) + float64(k)*math.Log(float64(n))
			near(t, fmt.Sprintf("the criterion of %d and %d", n, k), float64(got), want, 1e-4)
		}
	}
	wantFailing(t, []failing{{"CriterionOf a rest that is nothing by a number", fails(impl.CriterionOf(least, 2, 1))}})
}

func TestListsOfLinesThatAreCounted(t *testing.T) {
	l := line(0, 2, 0.9, 0)
	for _, n := range []int{0, 1, 2, 7, 8, 9, 100} {
		many, what := slices.Repeat([][]impl.Line{{l}}, n), fmt.Sprintf("CountLines of %d lists", n)
		best, _, ok := impl.CountLines(many, noisy, -2, 0.5)
		wantBool(t, what, ok && best == 0, n >= 1 && n <= 8)
	}
	for lines := range 13 {
		for _, n := range []int{1, 2, 3*lines - 1, 3 * lines, 3*lines + 1, 36, 128} {
			if n < 1 {
				continue
			}
			list, what := repeatNumber(1, n), fmt.Sprintf("CountLines of %d lines and %d numbers", lines, n)
			many := [][]impl.Line{nil, repeatLine(l, lines)}
			best, least, ok := impl.CountLines(many, list, -2, 0.01)
			if 3*lines > n {
				wantFailing(t, []failing{{what, fails(best, least, ok)}})
			} else {
				wantBool(t, what, ok, true)
			}
		}
	}
	wantFailing(t, []failing{
		{"CountLines of 13 lines", fails(impl.CountLines([][]impl.Line{repeatLine(l, 13)}, repeatNumber(1, 60), 0, 1))},
		{"CountLines of what leaves too much", fails(impl.CountLines([][]impl.Line{{l}, nil}, []float32{1e20, 1, 1}, 0, 1))},
	})
}

// TestFewestLinesThatFitAreCounted has lists with no line, the right ones, and one more than these.
func TestFewestLinesThatFitAreCounted(t *testing.T) {
	right := []impl.Line{line(-1, 1.5, 0.5, 0), line(1, 1, 0.75, 1)}
	list := someSpectrum(right, -3, 0.25, 25, [4]uint32{1 << 30, 3 << 30, 123456789, 987654321})
	more := append(slices.Clone(right), line(2, 0.01, 0.5, 0))
	many := [][]impl.Line{nil, right[:1], more, right, right}
	best, criterion, ok := impl.CountLines(many, list, -3, 0.25)
	wantBool(t, "CountLines", ok && best == 3, true)
	rest, _ := impl.RestOf(right, list, -3, 0.25)
	want, _ := impl.CriterionOf(rest+0.000001, 25, 6)
	wantBits(t, "the least criterion", criterion, bitsOf(want))
}
