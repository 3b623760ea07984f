package tests

import (
	"fmt"
	"math"
	"slices"
	"testing"

	"loop.example/g01403/impl"
)

func wrongKinds() []int64 { return []int64{math.MinInt64, -1, 4, 1 << 32, math.MaxInt64} }

// invalidLines are valid but for one number.
func invalidLines() []impl.Line {
	var list []impl.Line
	for _, x := range notFinite() {
		list = append(list, line(x, 1, 1, 0), line(1, x, 1, 1), line(1, 1, x, 2))
	}
	for _, x := range append(belowZero(), 0, minusZero) {
		list = append(list, line(1, 1, x, 3))
	}
	for _, kind := range wrongKinds() {
		list = append(list, line(1, 1, 1, kind))
	}
	return list
}

func repeatLine(l impl.Line, n int) []impl.Line { return slices.Repeat([]impl.Line{l}, n) }

func TestValidLines(t *testing.T) {
	for kind := range int64(4) {
		for _, place := range []float32{0, minusZero, -1, least, greatest, -greatest} {
			for _, width := range []float32{least, 1, greatest} {
				l := line(place, -place, width, kind)
				wantBool(t, "ValidLine of "+say(l), impl.ValidLine(l), true)
			}
		}
	}
	for _, l := range invalidLines() {
		wantBool(t, "ValidLine of "+say(l), impl.ValidLine(l), false)
	}
}

// TestInvalidLinesAreRefused puts them alone, first and last into lists.
func TestInvalidLinesAreRefused(t *testing.T) {
	fine, list := line(1, 2, 1, 3), []float32{1, 2, 1}
	for _, l := range invalidLines() {
		what := " of " + say(l)
		wantFailing(t, []failing{
			{"LineAt" + what, fails(impl.LineAt(l, 1))},
			{"AreaOf" + what, fails(impl.AreaOf(l))},
			{"BlendLines, first" + what, fails(impl.BlendLines(l, fine))},
			{"BlendLines, second" + what, fails(impl.BlendLines(fine, l))},
			{"BlendLines, both" + what, fails(impl.BlendLines(l, l))},
			{"FitLine" + what, fails(impl.FitLine(l, list, 0, 1, 1))},
		})
		for _, lines := range [][]impl.Line{{l}, {l, fine}, {fine, fine, l}} {
			wantFailing(t, []failing{
				{"LinesAt" + what, fails(impl.LinesAt(lines, 1))},
				{"SpectrumOf" + what, fails(impl.SpectrumOf(lines, 0, 1, 3))},
				{"SpectraShared" + what, fails(impl.SpectraShared([][]impl.Line{{fine}, lines}, 0, 1, 3, 2))},
				{"ShiftLines" + what, fails(impl.ShiftLines(lines, 0, 1))},
				{"RestOf" + what, fails(impl.RestOf(lines, list, 0, 1))},
				{"FitHeights" + what, fails(impl.FitHeights(lines, list, 0, 1))},
				{"CountLines" + what, fails(impl.CountLines([][]impl.Line{nil, lines}, []float32{1, 2, 1, 2, 1, 2, 1, 2, 1}, 0, 1))},
			})
		}
	}
}

// TestSameLinesHaveTheSameNumbers puts all kinds of numbers, valid or not, at each place.
func TestSameLinesHaveTheSameNumbers(t *testing.T) {
	same := func(l, m impl.Line) bool { return impl.SameLines([]impl.Line{l}, []impl.Line{m}) }
	for _, a := range strangeBits() {
		for _, b := range strangeBits() {
			x, y, want := num(a), num(b), bitsOf(num(a)) == bitsOf(num(b))
			what := fmt.Sprintf("SameLines of %08x and %08x", a, b)
			wantBool(t, what, same(line(x, 1, 2, 3), line(y, 1, 2, 3)), want)
			wantBool(t, what, same(line(1, x, 2, 3), line(1, y, 2, 3)), want)
			wantBool(t, what, same(line(1, 2, x, 3), line(1, 2, y, 3)), want)
			wantBool(t, what, same(line(x, x, x, -1), line(y, y, y, -1)), want)
		}
	}
	for _, a := range append(wrongKinds(), 0, 1, 2, 3) {
		for _, b := range append(wrongKinds(), 0, 1, 2, 3) {
			wantBool(t, fmt.Sprintf("SameLines of the kinds %d and %d", a, b), same(line(1, 2, 3, a), line(1, 2, 3, b)), a == b)
		}
	}
}

func TestSameLinesAreAsMany(t *testing.T) {
	l, m := line(1, 2, 3, 0), line(notANumber, infinity, -1, 9)
	for n := range 15 {
		for k := range 15 {
			wantBool(t, fmt.Sprintf("SameLines of %d and %d", n, k), impl.SameLines(repeatLine(m, n), repeatLine(m, k)), n == k)
		}
	}
	wantBool(t, "SameLines of nil and none", impl.SameLines(nil, []impl.Line{}), true)
	wantBool(t, "SameLines in another order", impl.SameLines([]impl.Line{l, m}, []impl.Line{m, l}), false)
	wantBool(t, "SameLines whose last one differs", impl.SameLines([]impl.Line{l, l}, []impl.Line{l, m}), false)
	wantBool(t, "SameLines", impl.SameLines([]impl.Line{l, m}, []impl.Line{l, m}), true)
}

func TestShapesOfNumbersThatAreNotFinite(t *testing.T) {
	l := line(1, 2, 1, 1)
	lines := []impl.Line{l, l}
	for _, x := range notFinite() {
		what := " of " + say(x)
		for kind := range int64(4) {
			wantFailing(t, []failing{{"LineAt" + what, fails(impl.LineAt(line(1, 2, 1, kind), x))}})
		}
		wantFailing(t, []failing{
			{"LineAt a line without height" + what, fails(impl.LineAt(line(1, 0, 1, 3), x))},
			{"LinesAt" + what, fails(impl.LinesAt(lines, x))},
			{"LinesAt no lines" + what, fails(impl.LinesAt(nil, x))},
			{"SpectrumOf, start" + what, fails(impl.SpectrumOf(lines, x, 1, 1))},
			{"SpectrumOf, step" + what, fails(impl.SpectrumOf(lines, 1, x, 1))},
			{"SpectrumOf no lines, start" + what, fails(impl.SpectrumOf(nil, x, 1, 1))},
			{"SpectrumOf no lines, step" + what, fails(impl.SpectrumOf(nil, 1, x, 1))},
			{"SpectraShared, start" + what, fails(impl.SpectraShared([][]impl.Line{lines}, x, 1, 1, 1))},
			{"SpectraShared, step" + what, fails(impl.SpectraShared([][]impl.Line{nil}, 1, x, 1, 1))},
			{"ShiftLines, by" + what, fails(impl.ShiftLines(lines, x, 1))},
			{"ShiftLines, times" + what, fails(impl.ShiftLines(lines, 1, x))},
			{"ShiftLines no lines, by" + what, fails(impl.ShiftLines(nil, x, 1))},
			{"ShiftLines no lines, times" + what, fails(impl.ShiftLines(nil, 1, x))},
		})
	}
}

// TestCountsOfLines tells how many lines there may be, 0 to 12.
func TestCountsOfLines(t *testing.T) {
	l := line(1, 2, 2, 3)
	for _, n := range []int{0, 1, 11, 12, 13, 14, 100} {
		lines, what := repeatLine(l, n), fmt.Sprintf(" of %d lines", n)
		if n > 12 {
			wantFailing(t, []failing{
				{"LinesAt" + what, fails(impl.LinesAt(lines, 1))},
				{"SpectrumOf" + what, fails(impl.SpectrumOf(lines, 0, 1, 3))},
				{"SpectraShared" + what, fails(impl.SpectraShared([][]impl.Line{lines}, 0, 1, 3, 1))},
				{"ShiftLines" + what, fails(impl.ShiftLines(lines, 1, 1))},
				{"RestOf" + what, fails(impl.RestOf(lines, []float32{0}, 0, 1))},
			})
			continue
		}
		most := float32(2 * n)
		wantTold(t, []told{
			{"LinesAt" + what, say(impl.LinesAt(lines, 1)), say(most, true)},
			{"SpectrumOf" + what, say(impl.SpectrumOf(lines, 0, 1, 4)), say([]float32{most / 2, most, most / 2, 0}, true)},
			{"SpectraShared" + what, say(impl.SpectraShared([][]impl.Line{lines}, 0, 1, 4, 1)), say([]float32{2 * most}, true)},
			{"ShiftLines" + what, say(impl.ShiftLines(lines, -1, 0.5)), say(repeatLine(line(0, 1, 2, 3), n), true)},
			{"RestOf" + what, say(impl.RestOf(lines, []float32{0}, 1, 1)), say(most*most, true)},
		})
	}
}

func TestCountsOfPlaces(t *testing.T) {
	lines := []impl.Line{line(0, 1, greatest, 3)}
	for _, n := range []int64{math.MinInt64, -1, 0, 129, 1 << 32, math.MaxInt64} {
		what := fmt.Sprintf(" of %d places", n)
		wantFailing(t, []failing{
			{"SpectrumOf" + what, fails(impl.SpectrumOf(lines, 0, 0, n))},
			{"SpectrumOf no lines" + what, fails(impl.SpectrumOf(nil, 0, 0, n))},
			{"SpectraShared" + what, fails(impl.SpectraShared([][]impl.Line{lines}, 0, 0, n, 1))},
		})
	}
	for _, n := range []int64{1, 2, 127, 128} {
		what := fmt.Sprintf(" of %d places", n)
		wantTold(t, []told{
			{"SpectrumOf" + what, say(impl.SpectrumOf(lines, 0, 0, n)), say(repeatNumber(1, int(n)), true)},
			{"SpectrumOf no lines" + what, say(impl.SpectrumOf(nil, 0, 0, n)), say(repeatNumber(0, int(n)), true)},
			{"SpectraShared" + what, say(impl.SpectraShared([][]impl.Line{lines}, 0, 0, n, 1)), say([]float32{float32(n)}, true)},
		})
	}
}

// TestAllWorkersFindTheSameSpectra holds spectra by workers against those told one by one.
func TestAllWorkersFindTheSameSpectra(t *testing.T) {
	wrongWorkers := []int64{math.MinInt64, -1, 0, 9, 1 << 32, math.MaxInt64}
	for count := range 9 {
		var many [][]impl.Line
		var want []float32
		for i := range count {
			many = append(many, append(repeatLine(line(float32(i)/8, 0.7, 1, int64(i%4)), i), twoLines...))
			spectrum, _ := impl.SpectrumOf(many[i], -2, 0.3, 20)
			sum, _ := impl.SumNumbers(spectrum)
			want = append(want, sum)
		}
		for workers := int64(1); workers <= 8; workers++ {
			what := fmt.Sprintf("SpectraShared of %d by %d", count, workers)
			wantTold(t, []told{{what, say(impl.SpectraShared(many, -2, 0.3, 20, workers)), say(want, true)}})
			for i := range many {
				odd := slices.Clone(many)
				odd[i] = []impl.Line{line(0, 1, 1, 4)}
				wantFailing(t, []failing{{what + " with a line that is none", fails(impl.SpectraShared(odd, -2, 0.3, 20, workers))}})
			}
		}
		for _, workers := range wrongWorkers {
			if count == 0 {
				wantTold(t, []told{{"SpectraShared of none", say(impl.SpectraShared([][]impl.Line{}, notANumber, 0, -1, workers)), "true "}})
				continue
			}
			wantFailing(t, []failing{{fmt.Sprintf("SpectraShared by %d", workers), fails(impl.SpectraShared(many, -2, 0.3, 20, workers))}})
		}
	}
	for _, n := range []int{9, 10, 100} {
		wantFailing(t, []failing{{fmt.Sprintf("SpectraShared of %d", n), fails(impl.SpectraShared(make([][]impl.Line, n), 0, 1, 1, 1))}})
	}
}

// TestLinesOnOneAnother adds their heights, and blends them to one line that lies on both.
func TestLinesOnOneAnother(t *testing.T) {
	for kind := range int64(4) {
		l := line(0.3, 1.5, 0.7, kind)
		for _, x := range []float32{-1, 0.3, 0.5, 0.9, 3} {
			one, _ := impl.LineAt(l, x)
			two, ok := impl.LinesAt([]impl.Line{l, l}, x)
			wantSum(t, "two lines on one another", two, ok, bitsOf(2*one))
			none, ok := impl.LinesAt([]impl.Line{l, line(0.3, -1.5, 0.7, kind)}, x)
			wantSum(t, "a line less itself", none, ok, zeroBits)
		}
		for other := range int64(4) {
			blend, ok := impl.BlendLines(line(0.25, 1.5, 0.7, kind), line(0.25, 2, 0.5, other))
			wantTold(t, []told{{"BlendLines on one another", say(blend, ok), say(line(0.25, 3.5, 0.7, kind), true)}})
		}
		wantFailing(t, []failing{{"BlendLines of a line less itself", fails(impl.BlendLines(l, line(0.3, -1.5, 0.7, kind)))}})
	}
}

// TestShiftsThatLeaveNoLines fail, even if only one place or height becomes too great.
func TestShiftsThatLeaveNoLines(t *testing.T) {
	lines := []impl.Line{line(1, 1, 1, 0), line(greatest, 1, 1, 1), line(1, greatest, 1, 2)}
	wantFailing(t, []failing{
		{"ShiftLines too far", fails(impl.ShiftLines(lines[:2], greatest, 1))},
		{"ShiftLines too high", fails(impl.ShiftLines(lines, 0, 1.5))},
		{"ShiftLines too low", fails(impl.ShiftLines(lines, 0, -1.5))},
	})
	shifted, ok := impl.ShiftLines(lines, -greatest, 0.5)
	wantTold(t, []told{{"ShiftLines", say(shifted, ok), say([]impl.Line{line(-greatest, 0.5, 1, 0), line(0, 0.5, 1, 1), line(-greatest, greatest/2, 1, 2)}, true)}})
}
