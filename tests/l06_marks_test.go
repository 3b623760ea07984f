package tests

import (
	"fmt"
	"math"
	"slices"
	"testing"

	"loop.example/g01403/impl"
)

func TestBinsThatAreRefused(t *testing.T) {
	for _, list := range listsRefusedFor(64) {
		what := fmt.Sprintf(" of %d numbers, %.40s", len(list), say(list))
		wantFailing(t, []failing{
			{"NoiseRatio" + what, fails(impl.NoiseRatio(list, 0, 1))},
			{"NoiseRatio from 1" + what, fails(impl.NoiseRatio(list, 1, 2))},
			{"CosmicMarks" + what, fails(impl.CosmicMarks(list, 0))},
			{"RemoveMarks" + what, fails(impl.RemoveMarks(list, 0))},
			{"StitchLists, a" + what, fails(impl.StitchLists(list, []float32{1, 2}, 1))},
			{"StitchLists, b" + what, fails(impl.StitchLists([]float32{1, 2}, list, 1))},
			{"SpreadBy" + what, fails(impl.SpreadBy(list, []float32{1}))},
			{"SharpenBy" + what, fails(impl.SharpenBy(list, []float32{1}, 0))},
			{"DepthOf, before" + what, fails(impl.DepthOf(list, repeatNumber(1, len(list))))},
			{"DepthOf, behind" + what, fails(impl.DepthOf(repeatNumber(1, len(list)), list))},
		})
	}
}

func TestListsOfOneNumber(t *testing.T) {
	wantTold(t, []told{
		{"NoiseRatio", say(impl.NoiseRatio([]float32{9}, 0, 1)), say(float32(3), true)},
		{"StitchLists", say(impl.StitchLists([]float32{3}, []float32{5}, 1)), say([]float32{3}, true)},
		{"StitchLists in front", say(impl.StitchLists([]float32{3}, []float32{6, 8}, 1)), say([]float32{3, 4}, true)},
		{"StitchLists behind", say(impl.StitchLists([]float32{3, 8}, []float32{2}, 1)), say([]float32{3, 8}, true)},
		{"SpreadBy 1", say(impl.SpreadBy([]float32{3}, []float32{2})), say([]float32{3}, true)},
		{"SpreadBy 3", say(impl.SpreadBy([]float32{3}, []float32{1, 2, 5})), say([]float32{3}, true)},
		{"SpreadBy 5", say(impl.SpreadBy([]float32{3}, []float32{1, 2, 3, 1, 1})), say([]float32{3}, true)},
		{"SharpenBy", say(impl.SharpenBy([]float32{3}, []float32{1, 2, 5}, 32)), say([]float32{3}, true)},
		{"DepthOf", say(impl.DepthOf([]float32{3}, []float32{3})), say([]float32{0}, true)},
	})
	for _, list := range [][]float32{{1}, {1, 2}, {2, 1}} {
		wantFailing(t, []failing{
			{"CosmicMarks of " + say(list), fails(impl.CosmicMarks(list, 0))},
			{"RemoveMarks of " + say(list), fails(impl.RemoveMarks(list, 0))},
		})
	}
}

func TestLongestBins(t *testing.T) {
	list := zigzag(64)
	var odd []int64
	for i := int64(1); i < 63; i += 2 {
		odd = append(odd, i)
	}
	marks, ok := impl.CosmicMarks(list, 0.5)
	wantBool(t, "CosmicMarks of 64 numbers", ok && slices.Equal(marks, odd), true)
	wantTold(t, []told{
		{"RemoveMarks of 64 numbers", say(impl.RemoveMarks(list, 0.5)), say(setAt(repeatNumber(0, 64), 63, 1), true)},
		{"NoiseRatio of 64 numbers", say(impl.NoiseRatio(repeatNumber(1, 64), 0, 64)), say(float32(8), true)},
		{"SpreadBy 64 numbers", say(impl.SpreadBy(repeatNumber(5, 64), []float32{1, 2, 1})), say(repeatNumber(5, 64), true)},
		{"SharpenBy 64 numbers", say(impl.SharpenBy(repeatNumber(5, 64), []float32{1, 2, 1}, 32)), say(repeatNumber(5, 64), true)},
		{"StitchLists of 64 numbers", say(impl.StitchLists(repeatNumber(5, 64), repeatNumber(5, 64), 64)), say(repeatNumber(5, 64), true)},
	})
}

// TestCountsFromAndTo looks at all counts, but adds those from the one index on, before the other one.
func TestCountsFromAndTo(t *testing.T) {
	counts := []float32{1, 2, 4, 8, 16}
	for from := int64(-2); from <= 7; from++ {
		for to := int64(-2); to <= 7; to++ {
			ratio, ok := impl.NoiseRatio(counts, from, to)
			what := fmt.Sprintf("NoiseRatio from %d to %d", from, to)
			if from < 0 || from >= to || to > 5 {
				wantFailing(t, []failing{{what, fails(ratio, ok)}})
				continue
			}
			sum := float64(int(1)<<to - int(1)<<from)
			wantBool(t, what, ok, true)
			near(t, what, float64(ratio), math.Sqrt(sum), 1e-6)
		}
	}
	for _, far := range []int64{math.MinInt64, 1 << 32, math.MaxInt64} {
		wantFailing(t, []failing{
			{"NoiseRatio from far", fails(impl.NoiseRatio(counts, far, 5))},
			{"NoiseRatio to far", fails(impl.NoiseRatio(counts, 0, far))},
			{"NoiseRatio of what is far", fails(impl.NoiseRatio(counts, far, far))},
		})
	}
	for _, x := range append(belowZero(), notFinite()...) {
		for i := range counts {
			wantFailing(t, []failing{{fmt.Sprintf("NoiseRatio with %s at %d", say(x), i), fails(impl.NoiseRatio(setAt(counts, i, x), 1, 4))}})
		}
	}
	wantTold(t, []told{
		{"NoiseRatio with 0", say(impl.NoiseRatio([]float32{0, minusZero, 4}, 0, 3)), say(float32(2), true)},
		{"NoiseRatio of the least count", say(impl.NoiseRatio([]float32{least}, 0, 1)), say(least/impl.RootNumber(least), true)},
	})
	wantFailing(t, []failing{
		{"NoiseRatio of 0", fails(impl.NoiseRatio([]float32{0}, 0, 1))},
		{"NoiseRatio of -0", fails(impl.NoiseRatio([]float32{minusZero}, 0, 1))},
		{"NoiseRatio of 0 beside others", fails(impl.NoiseRatio([]float32{3, 0, 0, 3}, 1, 3))},
		{"NoiseRatio of a sum too great", fails(impl.NoiseRatio([]float32{2e38, 2e38}, 0, 2))},
	})
}

func TestBarsOfMarks(t *testing.T) {
	for _, bar := range append(belowZero(), notFinite()...) {
		wantFailing(t, []failing{
			{"CosmicMarks, bar " + say(bar), fails(impl.CosmicMarks(spikes, bar))},
			{"RemoveMarks, bar " + say(bar), fails(impl.RemoveMarks(spikes, bar))},
		})
	}
	wantTold(t, []told{
		{"CosmicMarks of a bar of -0", say(impl.CosmicMarks([]float32{0, least, 0, 0}, minusZero)), "[1] true "},
		{"CosmicMarks of a greatest bar", say(impl.CosmicMarks([]float32{0, greatest, 0}, greatest)), "[] true "},
		{"CosmicMarks above what is too great", say(impl.CosmicMarks([]float32{-greatest, greatest, -1e38}, greatest)), "[1] true "},
		{"RemoveMarks of none", say(impl.RemoveMarks(spikes, 100)), say(spikes, true)},
		{"RemoveMarks of great ones", say(impl.RemoveMarks([]float32{1e38, greatest, 2e38}, 0)), say([]float32{1e38, 1.5e38, 2e38}, true)},
	})
	wantFailing(t, []failing{
		{"RemoveMarks between numbers too great", fails(impl.RemoveMarks([]float32{2e38, greatest, 2e38}, 0))},
	})
}

// TestMarksStandAboveBothNeighbours holds them against a search that looks at one number at a time.
func TestMarksStandAboveBothNeighbours(t *testing.T) {
	w := &words{65}
	for range 2000 {
		list := make([]float32, 3+w.below(62))
		for i := range list {
			list[i] = float32(w.below(9)) / 2
		}
		bar := float32(w.below(5)) / 2
		var want []int64
		cleaned := append([]float32{}, list...)
		for i := 1; i < len(list)-1; i++ {
			if list[i] > max(list[i-1], list[i+1])+bar {
				want = append(want, int64(i))
				cleaned[i] = (list[i-1] + list[i+1]) / 2
			}
		}
		marks, ok := impl.CosmicMarks(list, bar)
		wantBool(t, fmt.Sprintf("CosmicMarks of %v, bar %v", list, bar), ok && slices.Equal(marks, want), true)
		wantTold(t, []told{{fmt.Sprintf("RemoveMarks of %v, bar %v", list, bar), say(impl.RemoveMarks(list, bar)), say(cleaned, true)}})
	}
}

// TestStitchesOfLists has all that are allowed, and some others.
func TestStitchesOfLists(t *testing.T) {
	for _, n := range []int{1, 2, 5, 33, 64} {
		for _, m := range []int{1, 2, 32, 33, 64} {
			for over := -1; over <= 66; over++ {
				stitched, ok := impl.StitchLists(repeatNumber(6, n), repeatNumber(3, m), int64(over))
				what := fmt.Sprintf("StitchLists of %d and %d over %d", n, m, over)
				if over < 1 || over > n || over > m || n+m-over > 64 {
					wantFailing(t, []failing{{what, fails(stitched, ok)}})
					continue
				}
				wantTold(t, []told{{what, say(stitched, ok), say(repeatNumber(6, n+m-over), true)}})
			}
		}
	}
	for _, over := range []int64{math.MinInt64, 1 << 32, math.MaxInt64} {
		wantFailing(t, []failing{{"StitchLists over what is far", fails(impl.StitchLists([]float32{1, 2}, []float32{1, 2}, over))}})
	}
	wantFailing(t, []failing{
		{"StitchLists over a sum of 0", fails(impl.StitchLists([]float32{1, 2}, []float32{1, -1}, 2))},
		{"StitchLists over 0 and 0", fails(impl.StitchLists([]float32{1, 0}, []float32{0, 1}, 1))},
		{"StitchLists whose quotient is too great", fails(impl.StitchLists([]float32{1e30}, []float32{1e-30}, 1))},
		{"StitchLists whose last number is too great", fails(impl.StitchLists([]float32{1e10}, []float32{1, 1e30}, 1))},
		{"StitchLists whose sum is too great", fails(impl.StitchLists([]float32{2e38, 2e38}, []float32{1, 1}, 2))},
		{"StitchLists whose halves are too great", fails(impl.StitchLists([]float32{3e38}, []float32{1}, 1))},
	})
}

// TestStitchedListsAreOneAgain parts lists, and makes the second part brighter or darker.
func TestStitchedListsAreOneAgain(t *testing.T) {
	w := &words{66}
	for range 2000 {
		list := make([]float32, 2+w.below(63))
		for i := range list {
			list[i] = w.between(0.25, 2)
		}
		over := 1 + w.below(len(list)-1)
		from := w.below(len(list) - over + 1)
		times, b := w.between(0.125, 8), append([]float32{}, list[from:]...)
		for i := range b {
			b[i] *= times
		}
		stitched, ok := impl.StitchLists(list[:from+over], b, int64(over))
		wantBool(t, "StitchLists", ok, true)
		nearNumbers(t, fmt.Sprintf("a list that was parted at %d over %d", from, over), stitched, list, 3e-6)
	}
}

// wrongKernels are no 1, 3 or 5 numbers of at least 0 with a sum greater than 0.
func wrongKernels() [][]float32 {
	lists := [][]float32{nil, {0}, {minusZero}, {0, 0, 0}, {0, minusZero, 0, 0, 0}}
	for _, n := range []int{2, 4, 6, 7, 64, 65, 257} {
		lists = append(lists, repeatNumber(1, n))
	}
	for _, x := range append(belowZero(), notFinite()...) {
		lists = append(lists, []float32{x}, []float32{x, 1, 1}, []float32{greatest, x, 1}, []float32{1, 1, 1, 1, x})
	}
	return lists
}

func TestKernelsThatAreRefused(t *testing.T) {
	for _, kernel := range wrongKernels() {
		what := fmt.Sprintf(" %.60s", say(kernel))
		wantFailing(t, []failing{
			{"SpreadBy" + what, fails(impl.SpreadBy(bump, kernel))},
			{"SpreadBy 0" + what, fails(impl.SpreadBy([]float32{0}, kernel))},
			{"SharpenBy" + what, fails(impl.SharpenBy(bump, kernel, 2))},
			{"SharpenBy never" + what, fails(impl.SharpenBy(bump, kernel, 0))},
		})
	}
	for _, kernel := range [][]float32{{1e-30}, {1e30}, {0, 1, 0}, {minusZero, 1, 0}, {0, 0, 0, 0, 1}, {1, 0, 0, 0, 0}} {
		_, spread := impl.SpreadBy(bump, kernel)
		_, sharp := impl.SharpenBy(bump, kernel, 1)
		wantBool(t, "SpreadBy "+say(kernel), spread, true)
		wantBool(t, "SharpenBy "+say(kernel), sharp, true)
	}
	wantFailing(t, []failing{
		{"SpreadBy to what is too great", fails(impl.SpreadBy([]float32{greatest}, []float32{2}))},
		{"SpreadBy to a sum that is too great", fails(impl.SpreadBy([]float32{greatest, greatest}, []float32{1, 1, 1}))},
		{"SpreadBy a kernel whose sum is too great", fails(impl.SpreadBy([]float32{1, 1}, []float32{greatest, greatest, greatest}))},
	})
}

// TestSpreadingMovesByKernels: a kernel with one number moves a list, which is held at its ends.
func TestSpreadingMovesByKernels(t *testing.T) {
	list := []float32{1, 2, 3, 4, 5, 6}
	for _, size := range []int{1, 3, 5} {
		for k := range size {
			want := make([]float32, len(list))
			for i := range want {
				want[i] = float32(min(max(i+k-size/2, 0), len(list)-1) + 1)
			}
			what := fmt.Sprintf("SpreadBy the number %d of %d", k, size)
			wantTold(t, []told{{what, say(impl.SpreadBy(list, setAt(repeatNumber(0, size), k, 2))), say(want, true)}})
		}
	}
}

// TestSharpeningTurnsKernels: the second kernel has the opposite order, so that what was moved comes back.
func TestSharpeningTurnsKernels(t *testing.T) {
	wantTold(t, []told{
		{"SharpenBy to the right", say(impl.SharpenBy([]float32{1, 2, 4, 8}, []float32{0, 0, 1}, 1)), say([]float32{0.5, 1, 2, 4}, true)},
		{"SharpenBy to the left", say(impl.SharpenBy([]float32{1, 2, 4, 8}, []float32{1, 0, 0}, 1)), say([]float32{2, 4, 8, 16}, true)},
	})
}

func TestSharpeningThatIsRefused(t *testing.T) {
	for _, rounds := range []int64{math.MinInt64, -1, 33, 1 << 32, math.MaxInt64} {
		wantFailing(t, []failing{{fmt.Sprintf("SharpenBy in %d rounds", rounds), fails(impl.SharpenBy(bump, softKernel, rounds))}})
	}
	for _, x := range notPositive() {
		for i := range bump {
			odd := setAt(bump, i, x)
			wantFailing(t, []failing{
				{fmt.Sprintf("SharpenBy of %s at %d", say(x), i), fails(impl.SharpenBy(odd, softKernel, 1))},
				{fmt.Sprintf("SharpenBy never of %s at %d", say(x), i), fails(impl.SharpenBy(odd, softKernel, 0))},
			})
		}
	}
	wantFailing(t, []failing{
		{"SharpenBy of what spreads to 0", fails(impl.SharpenBy([]float32{least, least}, []float32{0.25}, 1))},
		{"SharpenBy of what is too great when spread", fails(impl.SharpenBy([]float32{greatest}, []float32{2}, 1))},
		{"SharpenBy of quotients too great", fails(impl.SharpenBy([]float32{1e30, 1e-30}, []float32{0, 0, 1}, 1))},
		{"SharpenBy to what is too great", fails(impl.SharpenBy([]float32{2e38, 1e38}, []float32{0, 0, 1}, 1))},
		{"SharpenBy to what is too great on the way", fails(impl.SharpenBy([]float32{2e38, 1e38}, []float32{0, 0, 1}, 2))},
		{"SharpenBy by a kernel too small", fails(impl.SharpenBy(bump, []float32{least}, 1))},
	})
	wantTold(t, []told{
		{"SharpenBy never", say(impl.SharpenBy(bump, softKernel, 0)), say(bump, true)},
		{"SharpenBy of what stays", say(impl.SharpenBy(bump, []float32{0, 1, 0}, 32)), say(bump, true)},
	})
}

// TestSharpListsAreSpreadToTheList: what is sharpened is narrower, and nearly the list when it is spread again.
func TestSharpListsAreSpreadToTheList(t *testing.T) {
	narrow := []float32{1, 1, 1, 1, 9, 1, 1, 1, 1}
	soft, _ := impl.SpreadBy(narrow, softKernel)
	sharp, ok := impl.SharpenBy(soft, softKernel, 32)
	wantBool(t, "SharpenBy", ok && sharp[4] > soft[4]+2 && sharp[3] < soft[3], true)
	again, ok := impl.SpreadBy(sharp, softKernel)
	wantBool(t, "SpreadBy", ok, true)
	nearNumbers(t, "a sharp list, spread again", again, soft, 0.1)
}
