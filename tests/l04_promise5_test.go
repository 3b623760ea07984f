package tests

import (
	"math"
	"testing"

	"loop.example/g01403/impl"
)

const (
	drivenWalk = 4000
	wholeTurn  = 2 * math.Pi
)

// between returns a number from low to high.
func between(r uint32, low, high float64) float32 {
	return float32(low + (high-low)*float64(r)/math.MaxUint32)
}

// somePulse drives levels for a few turns at most; one of five has no rate, and one of five no off.
func somePulse(r [4]uint32) impl.Pulse {
	p := pulse(between(r[0], 0, 4), between(r[1], -4, 4), between(r[2], -2, 2), between(r[3], 0, 10))
	switch r[0] % 5 {
	case 0:
		p.Rate = 0
	case 1:
		p.Off = 0
	}
	return p
}

// someState has the power 1, nearly.
func someState(r [4]uint32) []complex64 {
	tilt, phase := float64(between(r[1], 0, math.Pi)), impl.PhasorOf(float64(between(r[2], 0, 1)))
	other := impl.PhasorOf(float64(between(r[3], 0, 1)))
	return []complex64{impl.ScaleComplex(phase, float32(math.Cos(tilt))), impl.ScaleComplex(other, float32(math.Sin(tilt)))}
}

// forDriven calls tell with pulses and states.
func forDriven(start uint64, tell func(p, q impl.Pulse, state []complex64)) {
	before := [4]uint32{1, 2, 3, 4}
	walkFor(drivenWalk, start, func(r [4]uint32) []int64 {
		tell(somePulse(r), somePulse(before), someState([4]uint32{r[3], before[1], r[0], before[2]}))
		before = r
		return nil
	})
}

func powerOf(list []complex64) float64 {
	sum := 0.0
	for _, x := range list {
		sum += float64(real(x))*float64(real(x)) + float64(imag(x))*float64(imag(x))
	}
	return sum
}

func lengthOf(v []float32) float64 {
	sum := 0.0
	for _, x := range v {
		sum += float64(x) * float64(x)
	}
	return math.Sqrt(sum)
}

func nearNumbers(t *testing.T, what string, got, want []float32, within float64) {
	t.Helper()
	if len(got) != len(want) {
		t.Errorf("%s: got %v, want %v", what, got, want)
		return
	}
	for i := range got {
		near(t, what, float64(got[i]), float64(want[i]), within)
	}
}

func nearComplexes(t *testing.T, what string, got, want []complex64, within float64) {
	t.Helper()
	nearNumbers(t, what, bothParts(got), bothParts(want), within)
}

func bothParts(list []complex64) []float32 {
	var parts []float32
	for _, x := range list {
		parts = append(parts, real(x), imag(x))
	}
	return parts
}

// TestPulsesKeepTheLengthOfStates is the first part of promise 5, for pulses.
func TestPulsesKeepTheLengthOfStates(t *testing.T) {
	forDriven(51, func(p, q impl.Pulse, state []complex64) {
		first, _ := impl.PulseTurns(p)
		second, ok := impl.PulseTurns(q)
		wantBool(t, "PulseTurns", ok, true)
		joined, _ := impl.JoinTurns(first, second)
		for _, m := range [][]complex64{first, joined} {
			near(t, "a row of turns", powerOf(m[:2]), 1, 2e-6)
			near(t, "a row of turns", powerOf(m[2:]), 1, 2e-6)
			upright, _ := impl.DotConjugate(m[:2], m[2:])
			near(t, "two rows of turns", powerOf([]complex64{upright}), 0, 1e-12)
		}
		acted, ok := impl.ActTurns(first, state)
		wantBool(t, "ActTurns", ok, true)
		near(t, "a state behind a pulse", powerOf(acted), powerOf(state), 4e-6)
		run, _ := impl.PulseRun([]impl.Pulse{p, q, p, p, q, q, q, p, q, p, p, p, q}, state)
		near(t, "a state behind pulses", powerOf(run), powerOf(state), 2e-5)
	})
}

// TestPulsesOfOppositeTurnsLeadBack undoes what pulses do.
func TestPulsesOfOppositeTurnsLeadBack(t *testing.T) {
	forDriven(52, func(p, q impl.Pulse, state []complex64) {
		undo := func(p impl.Pulse) impl.Pulse { return pulse(p.Rate, -p.Off, p.Turn+0.5, p.Time) }
		back, ok := impl.PulseRun([]impl.Pulse{p, q, undo(q), undo(p)}, state)
		wantBool(t, "PulseRun", ok, true)
		nearComplexes(t, "a state that is led back", back, state, 1e-5)
		first, _ := impl.PulseTurns(p)
		opposite, _ := impl.PulseTurns(undo(p))
		joined, _ := impl.JoinTurns(first, opposite)
		nearComplexes(t, "joined opposite turns", joined, stays, 3e-6)
	})
}

// TestJoinedTurnsActOneAfterAnother holds JoinTurns and PulseRun against ActTurns.
func TestJoinedTurnsActOneAfterAnother(t *testing.T) {
	forDriven(53, func(p, q impl.Pulse, state []complex64) {
		first, _ := impl.PulseTurns(p)
		second, _ := impl.PulseTurns(q)
		joined, _ := impl.JoinTurns(first, second)
		got, _ := impl.ActTurns(joined, state)
		want, _ := impl.PulseRun([]impl.Pulse{p, q}, state)
		nearComplexes(t, "joined turns", got, want, 1e-6)
	})
}

// TestSwingsAreWhatTurnsTakeOver holds SwingShare against PulseTurns.
func TestSwingsAreWhatTurnsTakeOver(t *testing.T) {
	forDriven(54, func(p, _ impl.Pulse, _ []complex64) {
		share, ok := impl.SwingShare(p.Rate, p.Off, p.Time)
		wantBool(t, "SwingShare", ok && share >= 0 && share <= 1.000001, true)
		turns, _ := impl.PulseTurns(p)
		near(t, "a share of "+say(p.Rate, p.Off, p.Time), float64(share), float64(impl.PowerOf(turns[1])), 1e-6)
		near(t, "the other share", 1-float64(share), float64(impl.PowerOf(turns[0])), 1e-6)
	})
}

// TestVectorsTurnAsTheirStates holds the vectors of states behind pulses against turned vectors.
func TestVectorsTurnAsTheirStates(t *testing.T) {
	forDriven(55, func(p, _ impl.Pulse, state []complex64) {
		run, _ := impl.PulseRun([]impl.Pulse{p}, state)
		before, _ := impl.VectorOf(state)
		got, ok := impl.VectorOf(run)
		wantBool(t, "VectorOf", ok, true)
		near(t, "the length of a vector", lengthOf(before), powerOf(state), 2e-6)
		along := impl.PhasorOf(float64(p.Turn))
		axis := []float32{p.Rate * real(along), p.Rate * imag(along), p.Off}
		if want, ok := impl.TurnVector(before, axis, float32(lengthOf(axis)*float64(p.Time)/wholeTurn)); ok {
			nearNumbers(t, "a vector behind a pulse", got, want, 2e-5)
			near(t, "the length of a turned vector", lengthOf(want), lengthOf(before), 2e-6)
		}
	})
}

// TestTurnedVectorsKeepTheirLength is the first part of promise 5, for vectors, which keep their angle to the axis, too.
func TestTurnedVectorsKeepTheirLength(t *testing.T) {
	forDriven(56, func(p, q impl.Pulse, _ []complex64) {
		v, axis := []float32{p.Rate, p.Off, p.Turn}, []float32{q.Off, q.Turn, 0.25 + q.Rate}
		turned, ok := impl.TurnVector(v, axis, q.Time)
		wantBool(t, "TurnVector", ok, true)
		near(t, "the length of a turned vector", lengthOf(turned), lengthOf(v), 5e-6)
		along, _ := impl.DotNumbers(v, axis)
		still, _ := impl.DotNumbers(turned, axis)
		near(t, "how far a vector is along its axis", float64(still), float64(along), 3e-5)
		back, _ := impl.TurnVector(turned, axis, -q.Time)
		nearNumbers(t, "a vector that is turned back", back, v, 1e-5)
		again, _ := impl.TurnVector(turned, axis, 0.375)
		at, _ := impl.TurnVector(v, axis, q.Time+0.375)
		nearNumbers(t, "a vector that is turned twice", again, at, 2e-5)
	})
}

// TestStepsWithoutDampingKeepLengths is the first part of promise 5, for small steps, which are held against turned vectors.
func TestStepsWithoutDampingKeepLengths(t *testing.T) {
	walkFor(300, 57, func(r [4]uint32) []int64 {
		rate, off := between(r[0], -2, 2), between(r[1], -2, 2)
		v := []float32{between(r[2], -1, 1), between(r[3], -1, 1), between(r[2]^r[3], -1, 1)}
		const h, steps = 1. / 2048, 512
		stepped, ok := impl.DampSteps(v, rate, off, 0, 0, h, steps)
		wantBool(t, "DampSteps", ok, true)
		near(t, "the length of a vector behind steps", lengthOf(stepped), lengthOf(v), 1e-3)
		axis := []float32{rate, 0, off}
		turned, _ := impl.TurnVector(v, axis, float32(lengthOf(axis)*h*steps/wholeTurn))
		nearNumbers(t, "a vector behind steps", stepped, turned, 1e-3)
		return nil
	})
}

// TestEchoesComeTogetherAgain is the second part of promise 5: behind as long as the wait, all weights stand together.
func TestEchoesComeTogetherAgain(t *testing.T) {
	walkFor(2000, 58, func(r [4]uint32) []int64 {
		offs, weights, sum := make([]float32, 1+r[0]%32), make([]float32, 1+r[0]%32), float32(0)
		for i := range offs {
			offs[i], weights[i] = between(r[1]*uint32(2*i+1), -9, 9), between(r[2]*uint32(2*i+1), 0, 2)
			sum += weights[i]
		}
		wait := between(r[3], 0, 5)
		echo, ok := impl.EchoOf(offs, weights, wait, wait)
		wantSum(t, "an echo", echo, ok, bitsOf(sum))
		atOnce, ok := impl.FreeDecay(offs, weights, 0)
		wantSum(t, "a decay that begins", atOnce, ok, bitsOf(sum))
		for _, off := range []float32{wait, 0.25, 0.0625, 1e-3} {
			before, ok := impl.EchoOf(offs, weights, wait, max(wait-off, 0))
			after, fine := impl.EchoOf(offs, weights, wait, wait+min(off, wait))
			wantBool(t, "EchoOf", ok && fine, true)
			near(t, "an echo, before and after it is greatest", float64(before), float64(after), 4e-5*float64(sum))
			wantBool(t, "an echo is greatest behind its wait", before <= sum*1.000001 && after <= sum*1.000001, true)
		}
		free, _ := impl.FreeDecay(offs, weights, wait)
		near(t, "a decay, and an echo at no time", float64(free), float64(echoAtOnce(t, offs, weights, wait)), 1e-5*float64(sum))
		return nil
	})
}

func echoAtOnce(t *testing.T, offs, weights []float32, wait float32) float32 {
	t.Helper()
	echo, ok := impl.EchoOf(offs, weights, wait, 0)
	wantBool(t, "EchoOf at no time", ok, true)
	return echo
}

// TestEchoesOfVectors lets vectors turn during the wait, turns them over, and lets them go on.
func TestEchoesOfVectors(t *testing.T) {
	standing := func(wait, time float32) float64 {
		x, y := 0.0, 0.0
		for i, off := range someOffs {
			v, _ := impl.TurnVector([]float32{someWeights[i], 0, 0}, []float32{0, 0, 1}, float32(float64(off*wait)/wholeTurn))
			v, _ = impl.TurnVector(v, []float32{1, 0, 0}, 0.5)
			v, _ = impl.TurnVector(v, []float32{0, 0, 1}, float32(float64(off*time)/wholeTurn))
			x, y = x+float64(v[0]), y+float64(v[1])
		}
		return math.Hypot(x, y)
	}
	for wait := float32(0); wait < 4; wait += 0.375 {
		for time := float32(0); time < 8; time += 0.25 {
			echo, ok := impl.EchoOf(someOffs, someWeights, wait, time)
			wantBool(t, "EchoOf", ok, true)
			near(t, "an echo of vectors", float64(echo), standing(wait, time), 1e-5)
		}
	}
}
