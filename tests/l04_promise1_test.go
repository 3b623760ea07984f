package tests

import (
	"fmt"
	"math"
	"reflect"
	"testing"

	"loop.example/g01403/impl"
)

// driven are arguments of functions of chapter 4, some of which are lists.
type driven struct {
	pulses         []impl.Pulse
	turns, behind  []complex64
	state          []complex64
	v, axis        []float32
	rates, weights []float32
}

// sayDriven says what every function of chapter 4 makes of its arguments.
func sayDriven(d driven, x, y, z, w float32, n, steps int64) string {
	p := pulse(x, y, z, w)
	q := pulse(w, y, z, x)
	return say(impl.ValidPulse(p), impl.SamePulse(p, q)) + say(impl.SwingShare(x, y, z)) + say(impl.PulseTurns(p)) +
		say(impl.JoinTurns(d.turns, d.behind)) + say(impl.ActTurns(d.turns, d.state)) + say(impl.PulseRun(append([]impl.Pulse{p}, d.pulses...), d.state)) +
		say(impl.PulseRun(d.pulses, d.state)) + say(impl.VectorOf(d.state)) + say(impl.TurnVector(d.v, d.axis, x)) +
		say(impl.DampSteps(d.v, x, y, z, w, z, steps)) + say(impl.DampRest(x, y, z, w)) + say(impl.HeldShare(x, y, z, w)) +
		say(impl.FreeDecay(d.v, d.weights, x)) + say(impl.EchoOf(d.v, d.weights, x, y)) + say(impl.EchoesShared(d.v, d.weights, d.axis, n)) +
		say(impl.CrossShare(x, y)) + say(impl.DarkState(x, y)) + say(impl.LevelBalance(n, d.rates)) + say(impl.LevelSteps(n, d.rates, d.v, x, steps)) +
		say(impl.PumpLevel(x, y)) + say(impl.LightOf(x, y, z, w)) + say(impl.LightSteps(x, y, z, w, x, y, z, steps)) +
		say(impl.RingThrough(x, y)) + say(impl.CombPlaces(x, y, n)) + say(impl.CombNearest(x, y, z))
}

// someDriven returns arguments that are as they must be, for three levels.
func someDriven() driven {
	return driven{
		[]impl.Pulse{pulse(1, 0.5, 0.25, 2), pulse(0, 0, 0, 0)}, append([]complex64{}, uneven...), append([]complex64{}, mixed...),
		[]complex64{0.6, 0.8i}, []float32{1, 2, 3}, []float32{1, -1, 0.5}, append([]float32{}, threeRates...), []float32{3, 2, 1},
	}
}

// TestDrivenLevelsReturn calls every function of chapter 4 with all kinds of numbers, twice.
func TestDrivenLevelsReturn(t *testing.T) {
	integers := []int64{math.MinInt64, -1, 0, 1, 2, 3, 6, 7, 8, 9, 32, 33, math.MaxInt64}
	steps := []int64{math.MinInt64, -1, 0, 1, 2, 7, 512, 513, math.MaxInt64}
	bits := strangeBits()
	for i, a := range bits {
		for j, b := range bits {
			x, y, z, w := num(a), num(b), num(bits[(3*i+j)%len(bits)]), num(bits[(i+5*j+3)%len(bits)])
			n, often := integers[(i*7+j)%len(integers)], steps[(i+3*j)%len(steps)]
			odd := driven{
				[]impl.Pulse{pulse(x, y, z, w)}, []complex64{complex(x, y), 1, 0, complex(z, 1)}, []complex64{1, complex(w, z), 1i, 2},
				[]complex64{complex(z, 0), complex(0, y)}, []float32{x, 1, y}, []float32{z, y, 0}, []float32{0, x, y, 0}, []float32{1, w, 2},
			}
			twice(t, fmt.Sprintf("driven levels of %08x %08x %d %d", a, b, n, often), func() string {
				return sayDriven(odd, x, y, z, w, n, often) + sayDriven(someDriven(), x, y, z, w, 3, often) + sayDriven(odd, 1, 2, 3, 4, 2, 3)
			})
		}
	}
}

// TestListsOfDrivenLevelsAreNotModified looks at the memory of lists, and at what comes behind their ends.
func TestListsOfDrivenLevelsAreNotModified(t *testing.T) {
	d := someDriven()
	var complexes [3][]complex64
	var numbers [4][]float32
	var pulses []impl.Pulse
	d.pulses, pulses = withRoom(d.pulses, pulse(7, 7, 7, 7))
	d.turns, complexes[0] = withRoom(d.turns, 77)
	d.behind, complexes[1] = withRoom(d.behind, 78)
	d.state, complexes[2] = withRoom(d.state, 79)
	d.v, numbers[0] = withRoom(d.v, 80)
	d.axis, numbers[1] = withRoom(d.axis, 81)
	d.rates, numbers[2] = withRoom(d.rates, 82)
	d.weights, numbers[3] = withRoom(d.weights, 83)
	tell := func() string { return fmt.Sprint(pulses, complexes, numbers) }
	before := tell()
	for _, steps := range []int64{0, 1, 20} {
		first := sayDriven(d, 0.5, 0.25, 0.75, 1.5, 3, steps)
		if tell() != before {
			t.Fatalf("lists are modified: %s, and then %s", before, tell())
		}
		if again := sayDriven(d, 0.5, 0.25, 0.75, 1.5, 3, steps); again != first {
			t.Errorf("%s, and then %s", first, again)
		}
	}
}

// TestDrivenLevelsAreNew writes over all that functions return, and looks whether an argument or another result changes.
func TestDrivenLevelsAreNew(t *testing.T) {
	d := someDriven()
	first := sayDriven(d, 0.5, 0.25, 0.75, 1.5, 3, 5)
	complexes := func(list []complex64, ok bool) {
		wantBool(t, "a complex list", ok && len(list) > 0, true)
		overwrite(list)
	}
	numbers := func(list []float32, ok bool) {
		wantBool(t, "a list", ok && len(list) > 0, true)
		overwrite(list)
	}
	complexes(impl.PulseTurns(d.pulses[0]))
	complexes(impl.PulseTurns(d.pulses[1]))
	complexes(impl.JoinTurns(d.turns, d.behind))
	complexes(impl.JoinTurns(d.turns, stays))
	complexes(impl.JoinTurns(stays, d.turns))
	complexes(impl.ActTurns(d.turns, d.state))
	complexes(impl.ActTurns(stays, d.state))
	complexes(impl.PulseRun(d.pulses, d.state))
	complexes(impl.PulseRun(d.pulses[1:], d.state))
	numbers(impl.VectorOf(d.state))
	numbers(impl.TurnVector(d.v, d.axis, 0))
	numbers(impl.TurnVector(d.v, d.axis, 0.25))
	numbers(impl.TurnVector(d.v, d.v, 0.25))
	numbers(impl.DampSteps(d.v, 1, 1, 1, 1, 0.5, 3))
	numbers(impl.DampSteps(d.v, 1, 1, 1, 1, 0.5, 0))
	numbers(impl.DampRest(1, 2, 3, 4))
	numbers(impl.EchoesShared(d.v, d.weights, []float32{1, 2}, 2))
	numbers(impl.DarkState(1, 2))
	numbers(impl.LevelBalance(3, d.rates))
	numbers(impl.LevelBalance(1, []float32{0}))
	numbers(impl.LevelSteps(3, d.rates, d.v, 0.5, 3))
	numbers(impl.LevelSteps(3, d.rates, d.v, 0.5, 0))
	numbers(impl.CombPlaces(1, 2, 3))
	if again := sayDriven(d, 0.5, 0.25, 0.75, 1.5, 3, 5); again != first {
		t.Errorf("results share memory: %s, and then %s", first, again)
	}
	if !reflect.DeepEqual(d, someDriven()) {
		t.Errorf("arguments share memory with results: %v", d)
	}
}

func TestNilAndEmptyListsOfDrivenLevelsAreOneValue(t *testing.T) {
	empty := driven{[]impl.Pulse{}, []complex64{}, []complex64{}, []complex64{}, []float32{}, []float32{}, []float32{}, []float32{}}
	for n := int64(0); n < 3; n++ {
		if first, second := sayDriven(driven{}, 1, 2, 3, 4, n, 1), sayDriven(empty, 1, 2, 3, 4, n, 1); first != second {
			t.Errorf("nil gives %s, and what is empty gives %s", first, second)
		}
	}
}
