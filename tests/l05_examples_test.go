package tests

import (
	"slices"
	"testing"

	"loop.example/g01403/impl"
)

func TestExamplesOfChapter5(t *testing.T) {
	wide := line(3, 5, 0.75, 1)
	for _, x := range []float32{2.25, 3.75} {
		half, ok := impl.LineAt(wide, x)
		wantSum(t, "a line at a width from its place", half, ok, bitsOf(2.5))
	}
	peaks, ok := impl.PeaksOf([]float32{0, 1, 0, 2, 0}, 1, 1)
	wantBool(t, "PeaksOf", ok && slices.Equal(peaks, []int64{1, 3}), true)
	levels, ok := impl.EdgeLevels(3, []impl.Edge{edge(0, 1, 2), edge(1, 2, 3)})
	wantBool(t, "EdgeLevels", ok && sameNumbers(levels, []float32{0, 2, 5}), true)
}
