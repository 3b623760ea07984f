package tests

import (
	"fmt"
	"math"
	"testing"

	"loop.example/g01403/impl"
)

// TestCountsOfFilms tells how many there may be, 0 to 8.
func TestCountsOfFilms(t *testing.T) {
	for _, index := range []int{0, 1, 2, 7, 8, 9, 64} {
		for _, depth := range []int{0, 1, 2, 7, 8, 9, 64} {
			back, through, ok := impl.FilmShares(repeatNumber(1, index), repeatNumber(1, depth), 1, 1, 1)
			what := fmt.Sprintf("FilmShares of %d and %d", index, depth)
			if index != depth || index > 8 {
				wantFailing(t, []failing{{what, fails(back, through, ok)}})
				continue
			}
			wantTold(t, []told{{what, say(back, through, ok), say(float32(0), float32(1), true)}})
		}
	}
}

// TestFilmsOfNone throw back what an edge does, from both sides.
func TestFilmsOfNone(t *testing.T) {
	for _, both := range [][2]float32{{1, 3}, {3, 1}, {1, 1}, {1.5, 1.25}, {0.25, 4}} {
		first, last := float64(both[0]), float64(both[1])
		share := (first - last) / (first + last)
		for _, wave := range []float32{1, 1e-30, greatest} {
			back, through, ok := impl.FilmShares(nil, nil, both[0], both[1], wave)
			wantBool(t, "FilmShares", ok, true)
			near(t, "what an edge throws back", float64(back), share*share, 1e-7)
			near(t, "what an edge lets through", float64(through), 1-share*share, 1e-7)
		}
	}
}

func TestFilmsThatAreRefused(t *testing.T) {
	for _, x := range notPositive() {
		what := " of " + say(x)
		for i := range glasses {
			wantFailing(t, []failing{
				{"FilmShares, index" + what, fails(impl.FilmShares(setAt(glasses, i, x), thick, 1, 1.5, 0.5))},
				{"FilmShares, depth" + what, fails(impl.FilmShares(glasses, setAt(thick, i, x), 1, 1.5, 0.5))},
			})
		}
		wantFailing(t, []failing{
			{"FilmShares, first" + what, fails(impl.FilmShares(glasses, thick, x, 1.5, 0.5))},
			{"FilmShares, last" + what, fails(impl.FilmShares(glasses, thick, 1, x, 0.5))},
			{"FilmShares, wave" + what, fails(impl.FilmShares(glasses, thick, 1, 1.5, x))},
			{"FilmShares of none, first" + what, fails(impl.FilmShares(nil, nil, x, 1.5, 0.5))},
			{"FilmShares of none, last" + what, fails(impl.FilmShares(nil, nil, 1, x, 0.5))},
			{"FilmShares of none, both" + what, fails(impl.FilmShares(nil, nil, x, x, 0.5))},
			{"FilmShares of none, wave" + what, fails(impl.FilmShares(nil, nil, 1, 1.5, x))},
		})
	}
	wantFailing(t, []failing{
		{"FilmShares of infinite turns", fails(impl.FilmShares([]float32{1e20}, []float32{1e20}, 1, 1, 1))},
		{"FilmShares of a wave too short", fails(impl.FilmShares([]float32{1}, []float32{1}, 1, 1, least))},
		{"FilmShares of edges that are too great", fails(impl.FilmShares(nil, nil, greatest, greatest, 1))},
		{"FilmShares of powers that are too great", fails(impl.FilmShares(nil, nil, 1e20, 1, 1))},
		{"FilmShares of powers that are too small", fails(impl.FilmShares(nil, nil, 1e-25, 1e-25, 1))},
		{"FilmShares of indices that are too great", fails(impl.FilmShares([]float32{greatest, least}, []float32{1e-39, 1}, 1, 1, 1))},
	})
}

// TestFilmsOfHalfAWave are as if they were not there, and those of a quarter throw most back, or least.
func TestFilmsOfHalfAWave(t *testing.T) {
	for _, index := range []float32{1.25, 1.5, 2, 2.5} {
		for halves := 1; halves <= 8; halves++ {
			depth := 0.5 * float32(halves) / index
			back, _, ok := impl.FilmShares([]float32{index}, []float32{depth}, 1, 1.5, 1)
			wantBool(t, "FilmShares", ok, true)
			near(t, fmt.Sprintf("a film of %d halves of a wave", halves), float64(back), 0.04, 1e-5)
			n := float64(index) * float64(index)
			quarter := (1.5 - n) / (1.5 + n)
			back, _, ok = impl.FilmShares([]float32{index}, []float32{depth - 0.25/index}, 1, 1.5, 1)
			wantBool(t, "FilmShares", ok, true)
			near(t, fmt.Sprintf("a film of %d quarters of a wave", 2*halves-1), float64(back), quarter*quarter, 1e-5)
		}
	}
}

func TestDepthsThatAreRefused(t *testing.T) {
	for _, n := range []int{0, 1, 2, 63, 64, 65} {
		for _, m := range []int{0, 1, 2, 63, 64, 65} {
			depths, ok := impl.DepthOf(repeatNumber(5, n), repeatNumber(5, m))
			what := fmt.Sprintf("DepthOf %d and %d", n, m)
			if n != m || n < 1 || n > 64 {
				wantFailing(t, []failing{{what, fails(depths, ok)}})
				continue
			}
			wantTold(t, []told{{what, say(depths, ok), say(repeatNumber(0, n), true)}})
		}
	}
	for _, x := range notPositive() {
		for i := range 3 {
			odd := setAt([]float32{1, 2, 3}, i, x)
			wantFailing(t, []failing{
				{"DepthOf, before, " + say(x), fails(impl.DepthOf(odd, []float32{1, 2, 3}))},
				{"DepthOf, behind, " + say(x), fails(impl.DepthOf([]float32{1, 2, 3}, odd))},
				{"DepthOf, both, " + say(x), fails(impl.DepthOf(odd, odd))},
			})
		}
	}
	wantFailing(t, []failing{
		{"DepthOf a quotient that is too great", fails(impl.DepthOf([]float32{1, 1e30}, []float32{1, 1e-30}))},
		{"DepthOf a quotient that is too small", fails(impl.DepthOf([]float32{1e-30, 1}, []float32{1e30, 1}))},
	})
	for _, x := range []float32{0.25, 0.9, 1, 3, 1e30} {
		depths, ok := impl.DepthOf([]float32{x, 1}, []float32{1, x})
		wantBool(t, "DepthOf", ok, true)
		want := math.Log(float64(x))
		nearNumbers(t, "depths", depths, []float32{float32(want), float32(-want)}, 1e-6)
	}
}

func TestGrowthThatIsRefused(t *testing.T) {
	for _, bins := range append(wrongLengths(), -3) {
		wantFailing(t, []failing{
			{fmt.Sprintf("GrowthWidth of %d bins", bins), fails(impl.GrowthWidth(1, 1, bins))},
			{fmt.Sprintf("GrowthWidth of nothing in %d bins", bins), fails(impl.GrowthWidth(0, 1, bins))},
		})
	}
	for _, x := range append(belowZero(), notFinite()...) {
		wantFailing(t, []failing{{"GrowthWidth, depth " + say(x), fails(impl.GrowthWidth(x, 1, 8))}})
	}
	for _, x := range notPositive() {
		wantFailing(t, []failing{
			{"GrowthWidth, width " + say(x), fails(impl.GrowthWidth(1, x, 8))},
			{"GrowthWidth of nothing, width " + say(x), fails(impl.GrowthWidth(0, x, 8))},
		})
	}
	for bins := int64(2); bins <= 64; bins++ {
		wantTold(t, []told{
			{"GrowthWidth of nothing", say(impl.GrowthWidth(0, 1, bins)), say(float32(0), true)},
			{"GrowthWidth of -0", say(impl.GrowthWidth(minusZero, 1, bins)), say(float32(0), true)},
		})
		most, ok := impl.GrowthWidth(greatest, greatest, bins)
		wantBool(t, "GrowthWidth", ok, true)
		near(t, fmt.Sprintf("all of %d bins", bins), float64(most), 8, 1e-5)
	}
}

// TestLinesGrowWider: shallow lines have the area of a bell, and deeper ones are wider, but by less and less.
func TestLinesGrowWider(t *testing.T) {
	for _, width := range []float32{0.5, 0.75, 1} {
		shallow, ok := impl.GrowthWidth(0.001, width, 64)
		wantBool(t, "GrowthWidth", ok, true)
		near(t, "a shallow line", float64(shallow)/0.001, math.Sqrt(math.Pi)*float64(width), 2e-3)
		before := float32(0)
		for depth := float32(0.5); depth <= 1000; depth *= 2 {
			wide, ok := impl.GrowthWidth(depth, width, 64)
			wantBool(t, "a deeper line is wider", ok && wide > before && wide < 2*before+8*width, true)
			near(t, "a line that grows", float64(wide), grown(float64(depth), float64(width)), 1e-5)
			before = wide
		}
	}
}

// grown tells the width of a line that grows in 64 bins by the standard library.
func grown(depth, width float64) float64 {
	sum := 0.0
	for i := range 64 {
		x := (0.125*(float64(i)+0.5) - 4) / width
		sum += 1 - math.Exp(-depth*math.Exp(-x*x))
	}
	return sum / 8
}
