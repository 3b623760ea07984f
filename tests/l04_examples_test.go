package tests

import (
	"testing"

	"loop.example/g01403/impl"
)

func TestExamplesOfChapter4(t *testing.T) {
	swap := []impl.Pulse{{Rate: 3.1415927, Time: 1}}
	state, ok := impl.PulseRun(swap, []complex64{1, 0})
	wantBool(t, "PulseRun", ok, true)
	near(t, "the former state behind a pulse", float64(impl.PowerOf(state[0])), 0, 1e-12)
	near(t, "the latter state behind a pulse", float64(impl.PowerOf(state[1])), 1, 1e-6)
	greatest, ok := impl.EchoOf(someOffs, someWeights, 1, 1)
	wantBool(t, "EchoOf", ok, true)
	for i := range 200 {
		time := float32(i) / 64
		echo, ok := impl.EchoOf(someOffs, someWeights, 1, time)
		wantBool(t, "an echo is greatest at the time 1", ok && (echo < greatest || time == 1), true)
	}
	for _, back := range []float32{0, 0.1, 0.5, 0.999} {
		through, ok := impl.RingThrough(back, 0)
		wantSum(t, "mirrors at 0 turns", through, ok, oneBits)
	}
}
