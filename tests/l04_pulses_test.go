package tests

import (
	"fmt"
	"slices"
	"testing"

	"loop.example/g01403/impl"
)

// upper and lower are the states of two levels that are one of them.
var (
	upper = []complex64{1, 0}
	lower = []complex64{0, 1}
)

// invalidPulses are valid but for one number.
func invalidPulses() []impl.Pulse {
	var list []impl.Pulse
	for _, x := range notFinite() {
		list = append(list, pulse(x, 1, 1, 1), pulse(1, x, 1, 1), pulse(1, 1, x, 1), pulse(1, 1, 1, x))
	}
	for _, x := range belowZero() {
		list = append(list, pulse(x, 1, 1, 1), pulse(1, 1, 1, x))
	}
	return list
}

func TestInvalidPulses(t *testing.T) {
	fine := pulse(1, -2, -3, 4)
	wantBool(t, "ValidPulse", impl.ValidPulse(fine), true)
	for _, p := range invalidPulses() {
		what := fmt.Sprintf(" of %v", p)
		wantBool(t, "ValidPulse"+what, impl.ValidPulse(p), false)
		wantFailing(t, []failing{
			{"PulseTurns" + what, fails(impl.PulseTurns(p))},
			{"PulseRun" + what, fails(impl.PulseRun([]impl.Pulse{p}, upper))},
			{"PulseRun, the first one," + what, fails(impl.PulseRun([]impl.Pulse{p, fine}, upper))},
			{"PulseRun, the last one," + what, fails(impl.PulseRun([]impl.Pulse{fine, fine, p}, upper))},
		})
	}
}

// TestSamePulsesHaveTheSameNumbers puts all kinds of numbers, valid or not, at each place.
func TestSamePulsesHaveTheSameNumbers(t *testing.T) {
	for _, a := range strangeBits() {
		for _, b := range strangeBits() {
			x, y, want := num(a), num(b), bitsOf(num(a)) == bitsOf(num(b))
			what := fmt.Sprintf("SamePulse of %08x and %08x", a, b)
			wantBool(t, what, impl.SamePulse(pulse(x, 1, 2, 3), pulse(y, 1, 2, 3)), want)
			wantBool(t, what, impl.SamePulse(pulse(1, x, 2, 3), pulse(1, y, 2, 3)), want)
			wantBool(t, what, impl.SamePulse(pulse(1, 2, x, 3), pulse(1, 2, y, 3)), want)
			wantBool(t, what, impl.SamePulse(pulse(1, 2, 3, x), pulse(1, 2, 3, y)), want)
			wantBool(t, what, impl.SamePulse(pulse(x, x, x, x), pulse(y, y, y, y)), want)
		}
	}
}

// TestRatesOfZero looks at pulses that drive nothing, which are told apart by their whole rate.
func TestRatesOfZero(t *testing.T) {
	for _, x := range []float32{0, minusZero, least, 1e-23, -1e-23} {
		for _, time := range []float32{0, minusZero, 1, 1e30, greatest} {
			what := fmt.Sprintf(" of %v in %v", x, time)
			wantTold(t, []told{{"SwingShare" + what, say(impl.SwingShare(x, -x, time)), "00000000 true "}})
			turns, ok := impl.PulseTurns(pulse(max(x, -x), x, 0.3, time))
			if !ok || turns[0] != 1 || turns[1] != 0 || turns[2] != 0 || turns[3] != 1 {
				t.Errorf("PulseTurns%s: got %v %v", what, turns, ok)
			}
			for _, off := range []float32{1, -3} {
				wantTold(t, []told{{"SwingShare, off," + what, say(impl.SwingShare(x, off, 7)), "00000000 true "}})
			}
		}
	}
	for _, off := range []float32{0.5, -2} {
		state, ok := impl.PulseRun([]impl.Pulse{pulse(0, off, 0.7, 2)}, upper)
		if !ok || impl.PowerOf(state[1]) != 0 {
			t.Errorf("PulseRun without a rate: got %v %v", state, ok)
		}
	}
}

func TestSwingsThatFail(t *testing.T) {
	for _, x := range notFinite() {
		what := " of " + say(x)
		wantFailing(t, []failing{
			{"SwingShare, rate," + what, fails(impl.SwingShare(x, 1, 1))},
			{"SwingShare, off," + what, fails(impl.SwingShare(1, x, 1))},
			{"SwingShare, off beside nothing," + what, fails(impl.SwingShare(0, x, 1))},
			{"SwingShare, time," + what, fails(impl.SwingShare(1, 1, x))},
			{"SwingShare, time of nothing," + what, fails(impl.SwingShare(0, 0, x))},
		})
	}
	for _, x := range belowZero() {
		wantFailing(t, []failing{
			{"SwingShare, time, of " + say(x), fails(impl.SwingShare(1, 1, x))},
			{"SwingShare, time of nothing, of " + say(x), fails(impl.SwingShare(0, 0, x))},
		})
	}
	wantFailing(t, []failing{
		{"SwingShare of an infinite whole rate", fails(impl.SwingShare(1e20, 0, 1))},
		{"SwingShare of an infinite whole rate, by its off", fails(impl.SwingShare(1, 1e20, 1))},
		{"SwingShare of an infinite whole rate in no time", fails(impl.SwingShare(1e20, 0, 0))},
		{"SwingShare of infinite turns", fails(impl.SwingShare(1e10, 0, 1e30))},
		{"PulseTurns of an infinite whole rate", fails(impl.PulseTurns(pulse(1e20, 0, 0, 1)))},
		{"PulseTurns of an infinite whole rate, by its off", fails(impl.PulseTurns(pulse(0, 1e20, 0, 1)))},
		{"PulseTurns of infinite turns", fails(impl.PulseTurns(pulse(1e10, 0, 0, 1e30)))},
		{"PulseRun of infinite turns", fails(impl.PulseRun([]impl.Pulse{pulse(1e10, 0, 0, 1e30)}, upper))},
		{"PulseRun of infinite turns of nothing", fails(impl.PulseRun([]impl.Pulse{pulse(1e10, 0, 0, 1e30)}, []complex64{0, 0}))},
	})
}

func TestTurnsAndStatesOfWrongLengths(t *testing.T) {
	once := []impl.Pulse{pulse(1, 1, 1, 1)}
	for _, n := range []int{0, 1, 2, 3, 4, 5, 8, 33} {
		list, what := repeatComplex(1, n), fmt.Sprintf(" of %d numbers", n)
		if n != 4 {
			wantFailing(t, []failing{
				{"JoinTurns, first," + what, fails(impl.JoinTurns(list, stays))},
				{"JoinTurns, second," + what, fails(impl.JoinTurns(stays, list))},
				{"JoinTurns, both," + what, fails(impl.JoinTurns(list, list))},
				{"ActTurns" + what, fails(impl.ActTurns(list, upper))},
			})
		}
		if n != 2 {
			wantFailing(t, []failing{
				{"ActTurns, state" + what, fails(impl.ActTurns(stays, list))},
				{"PulseRun, state" + what, fails(impl.PulseRun(once, list))},
				{"VectorOf" + what, fails(impl.VectorOf(list))},
			})
		}
	}
}

func TestTurnsAndStatesThatAreNotFinite(t *testing.T) {
	once := []impl.Pulse{pulse(0, 0, 0, 0)}
	for _, x := range notFinite() {
		for _, z := range []complex64{complex(x, 0), complex(0, x), complex(x, x)} {
			what := " of " + say(z)
			for i := range 4 {
				turns := slices.Clone(stays)
				turns[i] = z
				wantFailing(t, []failing{
					{"JoinTurns, first," + what, fails(impl.JoinTurns(turns, stays))},
					{"JoinTurns, second," + what, fails(impl.JoinTurns(stays, turns))},
					{"ActTurns" + what, fails(impl.ActTurns(turns, upper))},
				})
			}
			for _, state := range [][]complex64{{z, 1}, {1, z}} {
				wantFailing(t, []failing{
					{"ActTurns, state" + what, fails(impl.ActTurns(stays, state))},
					{"PulseRun, state" + what, fails(impl.PulseRun(once, state))},
					{"VectorOf" + what, fails(impl.VectorOf(state))},
				})
			}
		}
	}
}

func TestTurnsThatGrowTooFar(t *testing.T) {
	for i := range 4 {
		for _, z := range []complex64{complex(greatest, 0), complex(0, greatest)} {
			turns := slices.Clone(stays)
			turns[i] = z
			state := []complex64{2, 2}
			wantFailing(t, []failing{
				{"JoinTurns of great ones", fails(impl.JoinTurns(turns, []complex64{2, 2, 2, 2}))},
				{"ActTurns of great ones", fails(impl.ActTurns(turns, state))},
			})
		}
	}
	great := []complex64{complex(greatest, greatest), complex(greatest, greatest)}
	round := pulse(1, 0.3, 0.1, 1)
	wantFailing(t, []failing{
		{"PulseRun of a great state", fails(impl.PulseRun([]impl.Pulse{round}, great))},
		{"PulseRun of a state that is great in between", fails(impl.PulseRun([]impl.Pulse{round, round, round}, great))},
		{"VectorOf a great first number", fails(impl.VectorOf([]complex64{1e20, 0}))},
		{"VectorOf a great second number", fails(impl.VectorOf([]complex64{0, 1e20}))},
		{"VectorOf great real products", fails(impl.VectorOf([]complex64{1.6e19, 1.6e19}))},
		{"VectorOf great imaginary products", fails(impl.VectorOf([]complex64{1.6e19, 1.6e19i}))},
	})
	wantTold(t, []told{
		{"VectorOf products that are not too great", say(impl.VectorOf([]complex64{1.25e19, 1.25e19})), say([]float32{2 * 1.5625e38, 0, 0}, true)},
	})
}

func TestRunsOfManyPulses(t *testing.T) {
	for _, n := range []int{0, 33, 64, 1000} {
		wantFailing(t, []failing{{fmt.Sprintf("PulseRun of %d pulses", n), fails(impl.PulseRun(make([]impl.Pulse, n), upper))}})
	}
	for n := 1; n <= 32; n++ {
		var pulses []impl.Pulse
		want := []complex64{0.6, 0.8i}
		for i := range n {
			pulses = append(pulses, pulse(float32(i%5)/2, float32(i%7)-3, float32(i)/16, float32(i%3)))
			turns, _ := impl.PulseTurns(pulses[i])
			want, _ = impl.ActTurns(turns, want)
		}
		wantTold(t, []told{{fmt.Sprintf("PulseRun of %d pulses", n), say(impl.PulseRun(pulses, []complex64{0.6, 0.8i})), say(want, true)}})
	}
}

func TestAxesThatAreNotThere(t *testing.T) {
	for _, v := range [][]float32{{1, 0, 0}, {0, 0, 0}, {1, 2, 3}} {
		for _, turns := range []float32{0, 0.25, -7} {
			for i := range 8 {
				axis := repeatNumber(0, 3)
				for k := range axis {
					if i>>k&1 == 1 {
						axis[k] = minusZero
					}
				}
				wantFailing(t, []failing{{"TurnVector around " + say(axis), fails(impl.TurnVector(v, axis, turns))}})
			}
			for _, x := range []float32{least, -least, 1e-23, -1e-30} {
				wantFailing(t, []failing{
					{"TurnVector around what is too short", fails(impl.TurnVector(v, []float32{x, 0, 0}, turns))},
					{"TurnVector around what is too short", fails(impl.TurnVector(v, []float32{0, x, x}, turns))},
				})
			}
		}
	}
	for _, x := range []float32{1e-22, -1e-22, 1, -2, 1e19} {
		for i := range 3 {
			axis := repeatNumber(minusZero, 3)
			axis[i] = x
			_, ok := impl.TurnVector([]float32{1, 2, 3}, axis, 0.3)
			wantBool(t, "TurnVector around "+say(axis), ok, true)
		}
	}
}

func TestVectorsThatFail(t *testing.T) {
	fine := []float32{1, 2, 3}
	for _, n := range []int{0, 1, 2, 4, 5, 33} {
		list, what := repeatNumber(1, n), fmt.Sprintf(" of %d numbers", n)
		wantFailing(t, []failing{
			{"TurnVector" + what, fails(impl.TurnVector(list, fine, 0.5))},
			{"TurnVector, axis" + what, fails(impl.TurnVector(fine, list, 0.5))},
			{"TurnVector, both" + what, fails(impl.TurnVector(list, list, 0.5))},
			{"DampSteps" + what, fails(impl.DampSteps(list, 1, 1, 1, 1, 0.125, 1))},
			{"DampSteps, no steps," + what, fails(impl.DampSteps(list, 1, 1, 1, 1, 0.125, 0))},
		})
	}
	for _, x := range notFinite() {
		what := " of " + say(x)
		wantFailing(t, []failing{{"TurnVector, turns" + what, fails(impl.TurnVector(fine, fine, x))}})
		for i := range fine {
			list := slices.Clone(fine)
			list[i] = x
			wantFailing(t, []failing{
				{"TurnVector" + what, fails(impl.TurnVector(list, fine, 0.5))},
				{"TurnVector, axis" + what, fails(impl.TurnVector(fine, list, 0.5))},
				{"DampSteps" + what, fails(impl.DampSteps(list, 1, 1, 1, 1, 0.125, 1))},
				{"DampSteps, no steps," + what, fails(impl.DampSteps(list, 1, 1, 1, 1, 0, 0))},
			})
		}
	}
	wantFailing(t, []failing{
		{"TurnVector of great numbers", fails(impl.TurnVector(repeatNumber(greatest, 3), []float32{1, 1, 1}, 0.125))},
		{"TurnVector of great numbers across", fails(impl.TurnVector([]float32{0, greatest, greatest}, []float32{1, -1, 1}, 0.125))},
	})
}
