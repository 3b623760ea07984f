package tests

import (
	"testing"

	"loop.example/g01403/impl"
)

func TestExamplesOfChapter7(t *testing.T) {
	wantTold(t, []told{
		{"NormalOf", say(impl.NormalOf([]float32{3, 4})), say([]float32{0.6, 0.8}, true)},
		{"BaseOf", say(impl.BaseOf([]float32{0, 2, 0}, 1)), say([]float32{0, 0, 0}, true)},
	})
	for _, rounds := range []int64{1, 2, 64} {
		unmixed := say(impl.Unmix([]float32{2, 3}, [][]float32{{1, 0}, {0, 1}}, rounds))
		wantTold(t, []told{{"Unmix", unmixed, say([]float32{2, 3}, float32(0), true)}})
	}
}
