package tests

import (
	"fmt"
	"math"
	"testing"

	"loop.example/g01403/impl"
)

// wrongCounts are less than least, or more than most.
func wrongCounts(least, most int64) []int64 {
	return []int64{math.MinInt64, -1 << 32, least - 1, most + 1, 1 << 32, math.MaxInt64}
}

func TestListsOfMixturesThatAreRefused(t *testing.T) {
	for _, list := range wrongLists() {
		what, like := fmt.Sprintf(" of %d numbers, %.40s", len(list), say(list)), repeatNumber(1, len(list))
		wantFailing(t, []failing{
			{"NormalOf" + what, fails(impl.NormalOf(list))},
			{"ScaledOf" + what, fails(impl.ScaledOf(list))},
			{"SmoothMean" + what, fails(impl.SmoothMean(list, 1))},
			{"SmoothMean alone" + what, fails(impl.SmoothMean(list, 0))},
			{"SmoothCurve" + what, fails(impl.SmoothCurve(list))},
			{"BaseOf" + what, fails(impl.BaseOf(list, 1))},
			{"BaseOf, no rounds," + what, fails(impl.BaseOf(list, 0))},
			{"LessBase" + what, fails(impl.LessBase(list, 1))},
			{"ShiftList" + what, fails(impl.ShiftList(list, 1))},
			{"ShiftList away" + what, fails(impl.ShiftList(list, 128))},
			{"BestShift, a" + what, fails(impl.BestShift(list, like, 1))},
			{"BestShift, b" + what, fails(impl.BestShift(like, list, 1))},
			{"AtSteps" + what, fails(impl.AtSteps(list, 0, 1, 1))},
			{"AtSteps beside" + what, fails(impl.AtSteps(list, -5, 0, 1))},
			{"LikeOf, a" + what, fails(impl.LikeOf(list, like))},
			{"LikeOf, b" + what, fails(impl.LikeOf(like, list))},
			{"FarOf, a" + what, fails(impl.FarOf(list, like))},
			{"FarOf, b" + what, fails(impl.FarOf(like, list))},
			{"FarOf, both" + what, fails(impl.FarOf(list, list))},
			{"RankLibrary" + what, fails(impl.RankLibrary(list, [][]float32{like}))},
			{"UnmixOnce" + what, fails(impl.UnmixOnce(list, [][]float32{like}, []float32{1}))},
			{"Unmix" + what, fails(impl.Unmix(list, [][]float32{like}, 1))},
			{"UnmixShared" + what, fails(impl.UnmixShared([][]float32{list}, [][]float32{like}, 1, 1))},
		})
		wantNoSpectra(t, what, [][]float32{list})
	}
}

// TestListsOfNothing has lists of 0: these are lists, but there is nothing by which they could be divided.
func TestListsOfNothing(t *testing.T) {
	for _, n := range []int{1, 2, 3, 5, 127, 128} {
		for _, zero := range []float32{0, minusZero} {
			list, ones := repeatNumber(zero, n), repeatNumber(1, n)
			nothing := say(repeatNumber(0, n), true)
			wantFailing(t, []failing{
				{"NormalOf of nothing", fails(impl.NormalOf(list))},
				{"ScaledOf of nothing", fails(impl.ScaledOf(list))},
				{"LikeOf of nothing and something", fails(impl.LikeOf(list, ones))},
				{"LikeOf of something and nothing", fails(impl.LikeOf(ones, list))},
				{"LikeOf of nothing and nothing", fails(impl.LikeOf(list, list))},
				{"RankLibrary for nothing", fails(impl.RankLibrary(list, [][]float32{ones}))},
				{"RankLibrary of nothing", fails(impl.RankLibrary(ones, [][]float32{ones, list}))},
				{"OddSpectrum of nothing", fails(impl.OddSpectrum([][]float32{list}))},
				{"OddSpectrum of something and nothing", fails(impl.OddSpectrum([][]float32{ones, ones, list}))},
				{"OddSpectrum of what makes nothing", fails(impl.OddSpectrum([][]float32{ones, repeatNumber(-1, n)}))},
			})
			wantTold(t, []told{
				{"SmoothMean of nothing", say(impl.SmoothMean(list, 2)), nothing},
				{"BaseOf of nothing", say(impl.BaseOf(list, 2)), say(list, true)},
				{"LessBase of nothing", say(impl.LessBase(list, 2)), nothing},
				{"ShiftList of nothing", say(impl.ShiftList(list, int64(n))), nothing},
				{"BestShift of nothing", say(impl.BestShift(list, ones, 3)), "0 true "},
				{"FarOf of nothing and nothing", say(impl.FarOf(list, list)), say(float32(0), true)},
				{"AtSteps of nothing", say(impl.AtSteps(list, -1, 0.5, 128)), say(atNothing(list), true)},
			})
		}
	}
	wantFailing(t, []failing{
		{"NormalOf of what is too small", fails(impl.NormalOf([]float32{1e-23, -1e-23}))},
		{"NormalOf of what is too great", fails(impl.NormalOf([]float32{2e19}))},
		{"NormalOf of what is too great together", fails(impl.NormalOf([]float32{1.5e19, 1.5e19}))},
	})
}

// atNothing are the numbers of zeros, with or without a sign, at 128 steps of 0.5 from -1 on: the last one is told as it is.
func atNothing(list []float32) []float32 {
	numbers := make([]float32, 128)
	if last := 2 + 2*(len(list)-1); last < len(numbers) {
		numbers[last] = list[0]
	}
	return numbers
}

func TestCountsOfSmoothLists(t *testing.T) {
	for _, count := range wrongCounts(0, 128) {
		wantFailing(t, []failing{{fmt.Sprintf("SmoothMean of %d beside", count), fails(impl.SmoothMean(reds, count))}})
	}
	for _, rounds := range wrongCounts(0, 64) {
		what := fmt.Sprintf(" in %d rounds", rounds)
		wantFailing(t, []failing{
			{"BaseOf" + what, fails(impl.BaseOf(reds, rounds))},
			{"LessBase" + what, fails(impl.LessBase(reds, rounds))},
			{"BaseOf of one" + what, fails(impl.BaseOf([]float32{1}, rounds))},
		})
	}
	for _, by := range append(wrongCounts(-128, 128), -129) {
		wantFailing(t, []failing{{fmt.Sprintf("ShiftList by %d", by), fails(impl.ShiftList(reds, by))}})
	}
	for _, most := range wrongCounts(0, 128) {
		wantFailing(t, []failing{{fmt.Sprintf("BestShift by at most %d", most), fails(impl.BestShift(reds, greens, most))}})
	}
	for _, n := range wrongCounts(1, 128) {
		wantFailing(t, []failing{{fmt.Sprintf("AtSteps, %d of them", n), fails(impl.AtSteps(reds, 0, 1, n))}})
	}
	for _, x := range notFinite() {
		wantFailing(t, []failing{
			{"AtSteps, start of " + say(x), fails(impl.AtSteps(reds, x, 1, 3))},
			{"AtSteps, step of " + say(x), fails(impl.AtSteps(reds, 1, x, 3))},
			{"AtSteps, step of nothing but " + say(x), fails(impl.AtSteps(reds, 1, x, 1))},
		})
	}
}

func TestListsOfOtherLengths(t *testing.T) {
	for n := 1; n <= 128; n += 7 {
		for _, m := range []int{1, n - 1, n + 1, 128} {
			if m < 1 || m == n || m > 128 {
				continue
			}
			a, b := repeatNumber(1, n), repeatNumber(1, m)
			what := fmt.Sprintf(" of %d and %d numbers", n, m)
			wantFailing(t, []failing{
				{"BestShift" + what, fails(impl.BestShift(a, b, 1))},
				{"LikeOf" + what, fails(impl.LikeOf(a, b))},
				{"FarOf" + what, fails(impl.FarOf(a, b))},
				{"RankLibrary" + what, fails(impl.RankLibrary(a, [][]float32{b}))},
				{"RankLibrary, both," + what, fails(impl.RankLibrary(a, [][]float32{a, b}))},
				{"UnmixOnce" + what, fails(impl.UnmixOnce(a, [][]float32{b}, []float32{1}))},
				{"Unmix" + what, fails(impl.Unmix(a, [][]float32{b, b}, 2))},
				{"UnmixShared" + what, fails(impl.UnmixShared([][]float32{b, a}, [][]float32{b}, 1, 2))},
			})
			wantNoSpectra(t, what, [][]float32{a, b})
			wantNoSpectra(t, what+" and others", [][]float32{b, b, b, a})
		}
	}
}

// TestMeansOfNeighbours holds them against sums that leave out what is not there.
func TestMeansOfNeighbours(t *testing.T) {
	w := &words{76}
	for _, n := range []int{1, 2, 3, 10, 127, 128} {
		list := anyScan(w, n)
		for _, half := range []int{0, 1, 2, 9, n - 1, n, 127, 128} {
			means, ok := impl.SmoothMean(list, int64(half))
			want := make([]float32, n)
			for i := range want {
				sum, many := 0.0, 0.0
				for k, x := range list {
					if max(i-k, k-i) <= half {
						sum, many = sum+float64(x), many+1
					}
				}
				want[i] = float32(sum / many)
			}
			what := fmt.Sprintf("SmoothMean of %d numbers, %d beside", n, half)
			wantBool(t, what, ok, true)
			nearNumbers(t, what, means, want, 1e-5)
		}
	}
	wantFailing(t, []failing{{"SmoothMean of a sum too great", fails(impl.SmoothMean([]float32{2e38, 2e38}, 1))}})
	wantTold(t, []told{{"SmoothMean of great ones alone", say(impl.SmoothMean([]float32{2e38, 2e38}, 0)), say([]float32{2e38, 2e38}, true)}})
}

// TestCurvesStayWhenTheyAreSmoothed: five numbers on a curve of the third degree, or less, are smoothed to themselves.
func TestCurvesStayWhenTheyAreSmoothed(t *testing.T) {
	for _, n := range []int{1, 2, 3, 4, 5, 6, 20, 128} {
		for _, c := range [][4]float64{{3, 0, 0, 0}, {-1, 0.5, 0, 0}, {1, -2, 0.25, 0}, {0.5, 1, -0.125, 0.001}} {
			list := make([]float32, n)
			for i := range list {
				u := float64(i) - 4
				list[i] = float32(c[0] + u*(c[1]+u*(c[2]+u*c[3])))
			}
			smooth, ok := impl.SmoothCurve(list)
			wantBool(t, "SmoothCurve", ok, true)
			nearNumbers(t, fmt.Sprintf("a curve of %d numbers, smoothed", n), smooth, list, 2e-2*math.Abs(float64(list[n-1]))/1000+1e-5)
		}
	}
	for n := 1; n <= 4; n++ {
		wantTold(t, []told{{"SmoothCurve of few", say(impl.SmoothCurve(crooked[:n])), say(crooked[:n], true)}})
	}
	wantFailing(t, []failing{{"SmoothCurve of numbers too great", fails(impl.SmoothCurve(repeatNumber(3e38, 5)))}})
	wantTold(t, []told{{"SmoothCurve of few great ones", say(impl.SmoothCurve(repeatNumber(3e38, 4))), say(repeatNumber(3e38, 4), true)}})
}

// TestBasesGoDownRoundByRound: rounds can be done one after another, a base is never above its list, and its ends stay.
func TestBasesGoDownRoundByRound(t *testing.T) {
	w := &words{77}
	for _, n := range []int{1, 2, 3, 4, 17, 128} {
		for range 20 {
			list := anyScan(w, n)
			base := append([]float32{}, list...)
			for rounds := range int64(65) {
				whole, ok := impl.BaseOf(list, rounds)
				wantBool(t, "BaseOf", ok && sameNumbers(whole, base), true)
				wantBits(t, "the first number of a base", whole[0], bitsOf(list[0]))
				wantBits(t, "the last number of a base", whole[n-1], bitsOf(list[n-1]))
				less, ok := impl.LessBase(list, rounds)
				wantBool(t, "LessBase", ok, true)
				for i, x := range whole {
					wantBool(t, "a base is not above its list", x <= list[i], true)
					wantBits(t, "a number less its base", less[i], bitsOf(list[i]-x))
				}
				base, _ = impl.BaseOf(base, 1)
			}
		}
	}
	wantFailing(t, []failing{
		{"BaseOf, half of a sum too small", fails(impl.BaseOf([]float32{-2e38, 0, -2e38}, 1))},
		{"BaseOf, a later half too small", fails(impl.BaseOf([]float32{0, -3e38, 0, 0, -3e38}, 2))},
		{"LessBase, a difference too great", fails(impl.LessBase([]float32{0, 3e38, -3e38, 0}, 1))},
	})
	wantTold(t, []told{
		{"BaseOf, half of a sum too great", say(impl.BaseOf([]float32{2e38, 0, 2e38}, 1)), say([]float32{2e38, 0, 2e38}, true)},
		{"BaseOf, not so many rounds", say(impl.BaseOf([]float32{0, -3e38, 0, 0, -3e38}, 1)), say([]float32{0, -3e38, -1.5e38, -1.5e38, -3e38}, true)},
		{"BaseOf, no rounds", say(impl.BaseOf([]float32{-2e38, 0, -2e38}, 0)), say([]float32{-2e38, 0, -2e38}, true)},
	})
}

// TestShiftsByAllPlaces looks for each number at its new place.
func TestShiftsByAllPlaces(t *testing.T) {
	for _, n := range []int{1, 2, 5, 64, 127, 128} {
		list := make([]float32, n)
		for i := range list {
			list[i] = float32(i + 1)
		}
		for by := -128; by <= 128; by++ {
			want := make([]float32, n)
			for i := range list {
				if k := i + by; k >= 0 && k < n {
					want[k] = list[i]
				}
			}
			wantTold(t, []told{{fmt.Sprintf("ShiftList of %d by %d", n, by), say(impl.ShiftList(list, int64(by))), say(want, true)}})
		}
	}
}

// TestBestShiftsAreFirstOnes holds them against a search in the order of the document.
func TestBestShiftsAreFirstOnes(t *testing.T) {
	w := &words{78}
	for range 1500 {
		n, most := 1+w.below(9), int64(w.below(11))
		a, b := make([]float32, n), make([]float32, n)
		for i := range a {
			a[i], b[i] = float32(w.below(5)-2), float32(w.below(5)-2)
		}
		best, greatest := int64(0), float32(0)
		for k := range 2*most + 1 {
			by := (k + 1) / 2
			if k%2 == 0 {
				by = -by
			}
			moved, _ := impl.ShiftList(a, by)
			if sum, _ := impl.DotNumbers(moved, b); k == 0 || sum > greatest {
				best, greatest = by, sum
			}
		}
		wantTold(t, []told{{fmt.Sprintf("BestShift of %v and %v by at most %d", a, b, most), say(impl.BestShift(a, b, most)), say(best, true)}})
	}
	long := setAt(repeatNumber(0, 128), 0, 1)
	wantTold(t, []told{
		{"BestShift by 127", say(impl.BestShift(long, setAt(repeatNumber(0, 128), 127, 1), 128)), "127 true "},
		{"BestShift by -127", say(impl.BestShift(setAt(repeatNumber(0, 128), 127, 1), long, 127)), "-127 true "},
		{"BestShift by less", say(impl.BestShift(long, setAt(repeatNumber(0, 128), 127, 1), 126)), "0 true "},
		{"BestShift away from what is below 0", say(impl.BestShift(repeatNumber(-1, 128), repeatNumber(1, 128), 128)), "128 true "},
		{"BestShift to a sum too great", say(impl.BestShift([]float32{1e30, 0}, []float32{0, 1e30}, 1)), "1 true "},
	})
}

func TestPlacesOfSteps(t *testing.T) {
	for _, n := range []int{1, 2, 9, 128} {
		list := anyScan(&words{79}, n)
		wantTold(t, []told{
			{"AtSteps of 1", say(impl.AtSteps(list, 0, 1, int64(n))), say(list, true)},
			{"AtSteps that stay", say(impl.AtSteps(list, float32(n-1), 0, 3)), say(repeatNumber(list[n-1], 3), true)},
			{"AtSteps before", say(impl.AtSteps(list, -least, 0, 2)), say(repeatNumber(0, 2), true)},
			{"AtSteps behind", say(impl.AtSteps(list, float32(n)-0.999, 0, 2)), say(repeatNumber(0, 2), true)},
			{"AtSteps far away", say(impl.AtSteps(list, greatest, greatest, 128)), say(repeatNumber(0, 128), true)},
			{"AtSteps far away to the left", say(impl.AtSteps(list, -greatest, -greatest, 128)), say(repeatNumber(0, 128), true)},
		})
		halves, ok := impl.AtSteps(list, 0, 0.25, 128)
		wantBool(t, "AtSteps of 0.25", ok, true)
		for i, x := range halves {
			k, want := i/4, float32(0)
			if k < n-1 {
				want = list[k] + float32(float32(i%4)/4*(list[k+1]-list[k]))
			} else if i == 4*(n-1) {
				want = list[k]
			}
			wantBits(t, fmt.Sprintf("the number at the step %d of %d", i, n), x, bitsOf(want))
		}
	}
	wantFailing(t, []failing{
		{"AtSteps between numbers too far apart", fails(impl.AtSteps([]float32{-3e38, 3e38}, 0.5, 0, 1))},
		{"AtSteps at one of them", fails(impl.AtSteps([]float32{-3e38, 3e38}, 0, 0, 1))},
	})
	wantTold(t, []told{{"AtSteps at the last one of them", say(impl.AtSteps([]float32{-3e38, 3e38}, 1, 0, 1)), say([]float32{3e38}, true)}})
}

func TestListsFarApart(t *testing.T) {
	wantFailing(t, []failing{
		{"FarOf of a difference too great", fails(impl.FarOf([]float32{3e38}, []float32{-3e38}))},
		{"FarOf of a square too great", fails(impl.FarOf([]float32{2e19}, []float32{0}))},
		{"FarOf of a sum too great", fails(impl.FarOf(repeatNumber(1.5e19, 2), repeatNumber(0, 2)))},
	})
	wantTold(t, []told{
		{"FarOf of 128 numbers", say(impl.FarOf(repeatNumber(2, 128), repeatNumber(1.5, 128))), say(impl.RootNumber(32), true)},
		{"LikeOf of 128 numbers", say(impl.LikeOf(setAt(repeatNumber(0, 128), 127, -3), setAt(repeatNumber(0, 128), 127, 2))), say(float32(-1), true)},
	})
}

func TestScaledListsHaveAGreatestOfOne(t *testing.T) {
	w := &words{80}
	for n := 1; n <= 128; n += 3 {
		list := anyScan(w, n)
		scaled, ok := impl.ScaledOf(list)
		wantBool(t, "ScaledOf", ok, true)
		normal, ok := impl.NormalOf(list)
		wantBool(t, "NormalOf", ok, true)
		most, squares := float32(0), 0.0
		for i := range list {
			most = max(most, scaled[i], -scaled[i])
			squares += float64(normal[i]) * float64(normal[i])
		}
		wantBits(t, "the greatest one of a scaled list", most, oneBits)
		near(t, "the sum of squares of a normal list", squares, 1, 1e-5)
	}
}
