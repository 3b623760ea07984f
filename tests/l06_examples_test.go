package tests

import (
	"math"
	"testing"

	"loop.example/g01403/impl"
)

func TestExamplesOfChapter6(t *testing.T) {
	base, slope, ok := impl.LampLine([]float32{0, 1, 2}, []float32{1, 3, 5})
	wantTold(t, []told{{"LampLine", say(base, slope, ok), say(float32(1), float32(2), true)}})
	for _, sine := range []float32{0, 0.25, -0.7, 1, -1} {
		out, ok := impl.GratingOut(0.5, 2, sine, 0)
		wantSum(t, "the order 0 of a grating", out, ok, bitsOf(0-sine))
	}
	for _, last := range []float32{1.5, 2, 4} {
		index := float32(math.Sqrt(1.25 * float64(last)))
		back, through, ok := impl.FilmShares([]float32{index}, []float32{0.55 / 4 / index}, 1.25, last, 0.55)
		wantBool(t, "FilmShares", ok, true)
		near(t, "what a film of a quarter of a wave throws back", float64(back), 0, 1e-12)
		near(t, "what it lets through", float64(through), 1, 1e-6)
	}
}
