package tests

import (
	"testing"

	"loop.example/g01403/impl"
)

func TestExamplesOfChapter2(t *testing.T) {
	through, back, ok := impl.StepShares(free, 1)
	wantSum(t, "StepShares without edges", through, ok, oneBits)
	wantBits(t, "what comes back without edges", back, zeroBits)
	box, ok := impl.BoxLevels(3.1415927, 3)
	if !ok || !sameNumbers(box, []float32{1, 4, 9}) {
		t.Errorf("BoxLevels: got %v %v", box, ok)
	}
	below, ok := impl.CountBelow([]float32{2, 2}, -1, 2)
	if !ok || below != 1 {
		t.Errorf("CountBelow: got %v %v", below, ok)
	}
}
