package tests

import (
	"fmt"
	"math"
	"slices"
	"testing"

	"loop.example/g01403/impl"
)

// wrongLists are no lists of 1 to 128 finite numbers.
func wrongLists() [][]float32 { return listsRefusedFor(128) }

// listsRefusedFor returns what are no lists of 1 to so many finite numbers.
func listsRefusedFor(most int) [][]float32 {
	lists := [][]float32{nil, {}, repeatNumber(1, most+1), repeatNumber(1, 1000)}
	for _, x := range notFinite() {
		lists = append(lists, []float32{x}, []float32{x, 1, 2, 1}, []float32{1, 2, x, 1}, []float32{1, 2, 1, x})
	}
	return lists
}

// zigzag goes up and down between 0 and 1, and begins with 0.
func zigzag(n int) []float32 {
	list := make([]float32, n)
	for i := range list {
		list[i] = float32(i % 2)
	}
	return list
}

func TestListsThatAreRefused(t *testing.T) {
	for _, list := range wrongLists() {
		what := fmt.Sprintf(" of %d numbers, %.40s", len(list), say(list))
		wantFailing(t, []failing{
			{"PeaksOf" + what, fails(impl.PeaksOf(list, 0, 1))},
			{"BendOf" + what, fails(impl.BendOf(list))},
			{"BentPeaks" + what, fails(impl.BentPeaks(list, 0))},
			{"PeakPlace" + what, fails(impl.PeakPlace(list, 1))},
			{"HalfWidth" + what, fails(impl.HalfWidth(list, 1))},
			{"RestOf" + what, fails(impl.RestOf(nil, list, 0, 1))},
			{"FitHeights" + what, fails(impl.FitHeights(twoLines, list, 0, 1))},
			{"FitLine" + what, fails(impl.FitLine(line(1, 1, 1, 1), list, 0, 1, 1))},
			{"CountLines" + what, fails(impl.CountLines([][]impl.Line{nil}, list, 0, 1))},
		})
	}
}

// TestPeaksOfShortLists finds none where there is nothing but a first and a last number.
func TestPeaksOfShortLists(t *testing.T) {
	for _, list := range [][]float32{{1}, {1, 2}, {2, 1}} {
		what := " of " + say(list)
		wantTold(t, []told{{"PeaksOf" + what, say(impl.PeaksOf(list, -9, 1)), "[] true "}})
		for i := range int64(len(list)) {
			wantFailing(t, []failing{
				{"PeakPlace" + what, fails(impl.PeakPlace(list, i))},
				{"HalfWidth" + what, fails(impl.HalfWidth(list, i))},
			})
		}
		wantFailing(t, []failing{
			{"BendOf" + what, fails(impl.BendOf(list))},
			{"BentPeaks" + what, fails(impl.BentPeaks(list, -9))},
		})
	}
}

func TestLongestLists(t *testing.T) {
	list := zigzag(128)
	peaks, ok := impl.PeaksOf(list, 1, 1)
	if !ok || len(peaks) != 63 || peaks[0] != 1 || peaks[62] != 125 {
		t.Errorf("PeaksOf 128 numbers: got %v %v", peaks, ok)
	}
	bends, ok := impl.BendOf(list)
	if !ok || len(bends) != 126 || bends[0] != 2 || bends[125] != -2 {
		t.Errorf("BendOf 128 numbers: got %v %v", bends, ok)
	}
	bent, ok := impl.BentPeaks(list, 1.5)
	if !ok || !slices.Equal(bent, peaks) {
		t.Errorf("BentPeaks of 128 numbers: got %v %v", bent, ok)
	}
	wantTold(t, []told{
		{"PeakPlace at the last place", say(impl.PeakPlace(zigzag(127), 125)), say(float32(125), float32(1), true)},
		{"HalfWidth at the last place", say(impl.HalfWidth(zigzag(127), 125)), say(float32(1), true)},
		{"PeaksOf 128 numbers far apart", say(impl.PeaksOf(list, 1, 128)), "[1] true "},
		{"PeaksOf 128 numbers that are not so far apart", say(impl.PeaksOf(list, 1, 124)), "[1 125] true "},
		{"PeaksOf 128 numbers that are a little nearer", say(impl.PeaksOf(list, 1, 125)), "[1] true "},
	})
}

func TestPeaksOfWrongNumbers(t *testing.T) {
	list := []float32{0, 1, 0, 2, 0}
	for _, x := range notFinite() {
		wantFailing(t, []failing{
			{"PeaksOf, least of " + say(x), fails(impl.PeaksOf(list, x, 1))},
			{"PeaksOf few, least of " + say(x), fails(impl.PeaksOf(list[:1], x, 1))},
			{"BentPeaks, least of " + say(x), fails(impl.BentPeaks(list, x))},
		})
	}
	for _, apart := range []int64{math.MinInt64, -1, 0, 129, 1 << 32, math.MaxInt64} {
		wantFailing(t, []failing{
			{fmt.Sprintf("PeaksOf, %d apart", apart), fails(impl.PeaksOf(list, 0, apart))},
			{fmt.Sprintf("PeaksOf few, %d apart", apart), fails(impl.PeaksOf(list[:1], 0, apart))},
		})
	}
	for _, i := range []int64{math.MinInt64, -1, 0, 4, 5, 1 << 32, math.MaxInt64} {
		what := fmt.Sprintf(" at %d", i)
		wantFailing(t, []failing{
			{"PeakPlace" + what, fails(impl.PeakPlace([]float32{2, 1, 2, 1, 2}, i))},
			{"PeakPlace of others" + what, fails(impl.PeakPlace(list, i))},
			{"HalfWidth" + what, fails(impl.HalfWidth([]float32{2, 0, 2, 0, 2}, i))},
		})
	}
}

// TestPeaksInAnyOrder takes the greatest ones first, however they stand, and leaves out what is nearer than apart.
func TestPeaksInAnyOrder(t *testing.T) {
	walkFor(500, 91, func(r [4]uint32) []int64 {
		list, apart := someNumbers(3+int(r[1]%60), r), 1+int64(r[2]%9)
		all, ok := impl.PeaksOf(list, 1, 1)
		wantBool(t, "PeaksOf", ok, true)
		for i := 1; i < len(list)-1; i++ {
			want := list[i] >= 1 && list[i] > list[i-1] && list[i] >= list[i+1]
			wantBool(t, fmt.Sprintf("%d is a peak of %v", i, list), slices.Contains(all, int64(i)), want)
		}
		some, ok := impl.PeaksOf(list, 1, apart)
		wantBool(t, "PeaksOf, apart", ok && slices.IsSorted(some), true)
		for _, i := range all {
			near := func(k int64) bool { return k != i && max(i-k, k-i) < apart }
			before := func(k int64) bool { return list[k] > list[i] || list[k] == list[i] && k < i }
			hidden := slices.ContainsFunc(some, func(k int64) bool { return near(k) && before(k) })
			wantBool(t, fmt.Sprintf("%d is a peak of %v, %d apart", i, list, apart), slices.Contains(some, i), !hidden)
			if slices.Contains(some, i) {
				wantBool(t, "peaks are apart", slices.ContainsFunc(some, near), false)
			}
		}
		return nil
	})
}

// TestPeaksOfCurves finds the place and the height of parabolas, wherever their top is.
func TestPeaksOfCurves(t *testing.T) {
	for i := int64(1); i < 7; i++ {
		for off := float32(-0.5); off <= 0.5; off += 0.125 {
			for _, steep := range []float32{0.25, 1, 3} {
				list := make([]float32, 8)
				for k := range list {
					u := float32(k) - float32(i) - off
					list[k] = 9 - steep*u*u
				}
				place, height, ok := impl.PeakPlace(list, i)
				wantBool(t, "PeakPlace", ok, true)
				near(t, "the place of a peak", float64(place), float64(i)+float64(off), 1e-6)
				near(t, "the height of a peak", float64(height), 9, 1e-5)
			}
		}
	}
}

// TestHalfWidthsOfRoofs are their widths, whose sides are straight.
func TestHalfWidthsOfRoofs(t *testing.T) {
	for _, place := range []float32{20, 30.0} {
		for _, width := range []float32{2, 4.5, 7, 12.25} {
			list, _ := impl.SpectrumOf([]impl.Line{line(place, 2.5, width, 3)}, 0, 1, 50)
			half, ok := impl.HalfWidth(list, int64(place))
			wantBool(t, "HalfWidth", ok, true)
			near(t, "the half width of a roof", float64(half), float64(width), 1e-4)
		}
	}
}

func TestBendsThatAreNotFinite(t *testing.T) {
	// One bend that is too great is enough, wherever the peak is.
	steep := []float32{0, 1, 0, -greatest, 0, 1, 0}
	wantFailing(t, []failing{
		{"BendOf", fails(impl.BendOf(steep))},
		{"BentPeaks", fails(impl.BentPeaks(steep, 0))},
		{"PeakPlace", fails(impl.PeakPlace(steep, 1))},
		{"PeakPlace behind it", fails(impl.PeakPlace(steep, 5))},
	})
	wantTold(t, []told{
		{"PeaksOf", say(impl.PeaksOf(steep, 0, 1)), "[1 5] true "},
		{"HalfWidth", say(impl.HalfWidth(steep, 1)), say(float32(1), true)},
	})
}
