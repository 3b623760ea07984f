package tests

import (
	"fmt"
	"math"
	"slices"
	"testing"

	"loop.example/g01403/impl"
)

// wrongSteps are neither 0 to 512 nor near to it.
func wrongSteps() []int64 { return []int64{math.MinInt64, -512, -1, 513, 1 << 32, math.MaxInt64} }

// setAt returns a copy of a list with another number at i.
func setAt(list []float32, i int, x float32) []float32 {
	set := slices.Clone(list)
	set[i] = x
	return set
}

func TestDampingOfWhatIsRefused(t *testing.T) {
	v := []float32{1, 2, 3}
	for _, x := range notFinite() {
		what := " of " + say(x)
		wantFailing(t, []failing{
			{"DampSteps, rate" + what, fails(impl.DampSteps(v, x, 1, 1, 1, 0.125, 0))},
			{"DampSteps, off" + what, fails(impl.DampSteps(v, 1, x, 1, 1, 0.125, 0))},
			{"DampRest, rate" + what, fails(impl.DampRest(x, 1, 1, 1))},
			{"DampRest, off" + what, fails(impl.DampRest(1, x, 1, 1))},
			{"HeldShare, rate" + what, fails(impl.HeldShare(x, 1, 1, 1))},
			{"HeldShare, off" + what, fails(impl.HeldShare(1, x, 1, 1))},
		})
	}
	for _, x := range append(belowZero(), notFinite()...) {
		what := " of " + say(x)
		wantFailing(t, []failing{
			{"DampSteps, one" + what, fails(impl.DampSteps(v, 1, 1, x, 1, 0.125, 0))},
			{"DampSteps, two" + what, fails(impl.DampSteps(v, 1, 1, 1, x, 0.125, 0))},
			{"DampSteps, h" + what, fails(impl.DampSteps(v, 1, 1, 1, 1, x, 0))},
		})
	}
	for _, x := range append([]float32{0, minusZero}, append(belowZero(), notFinite()...)...) {
		what := " of " + say(x)
		wantFailing(t, []failing{
			{"DampRest, one" + what, fails(impl.DampRest(1, 1, x, 1))},
			{"DampRest, two" + what, fails(impl.DampRest(1, 1, 1, x))},
			{"DampRest of nothing, one" + what, fails(impl.DampRest(0, 0, x, 1))},
			{"DampRest of nothing, two" + what, fails(impl.DampRest(0, 0, 1, x))},
			{"HeldShare, one" + what, fails(impl.HeldShare(0, 0, x, 1))},
			{"HeldShare, two" + what, fails(impl.HeldShare(0, 0, 1, x))},
		})
	}
	for _, n := range wrongSteps() {
		wantFailing(t, []failing{{fmt.Sprintf("DampSteps of %d steps", n), fails(impl.DampSteps(v, 1, 1, 1, 1, 0, n))}})
	}
	for _, n := range []int64{0, 1, 511, 512} {
		wantTold(t, []told{{fmt.Sprintf("DampSteps of %d steps of 0", n), say(impl.DampSteps(v, 1, -1, 1, 1, 0, n)), say(v, true)}})
	}
}

// TestDampingWithoutRates leaves vectors as they are, however far and often they step.
func TestDampingWithoutRates(t *testing.T) {
	for _, v := range [][]float32{{0, 0, 0}, {1, 0, 0}, {0, 0, 1}, {-1.5, 2, -7}, {greatest, -greatest, 1}} {
		for _, h := range []float32{0, 1, 1e30} {
			wantTold(t, []told{
				{"DampSteps without rates of " + say(v), say(impl.DampSteps(v, 0, 0, 0, 0, h, 512)), say(v, true)},
			})
		}
	}
}

func TestDampingThatIsNotFinite(t *testing.T) {
	wantFailing(t, []failing{
		{"DampSteps by great steps", fails(impl.DampSteps([]float32{1, 1, 0}, 2, 2, 2, 2, greatest, 1))},
		{"DampSteps whose x grows", fails(impl.DampSteps([]float32{1, -1e30, 0}, 0, 1e10, 0, 0, 1, 1))},
		{"DampSteps whose y grows", fails(impl.DampSteps([]float32{0, 1, -1e30}, 1e10, 0, 0, 0, 1, 1))},
		{"DampSteps whose z grows", fails(impl.DampSteps([]float32{0, 0, -1e30}, 0, 0, 1e10, 0, 1, 1))},
		{"DampSteps that grow again and again", fails(impl.DampSteps([]float32{1, 1, 1}, 100, 100, 0, 0, 1, 512))},
		{"DampRest of a great off", fails(impl.DampRest(1, 1e20, 1, 1))},
		{"DampRest of a great rate by little", fails(impl.DampRest(1e10, 0, 1e10, 1e-30))},
		{"DampRest of no number", fails(impl.DampRest(1e-30, 0, 1e-30, 1e-30))},
		{"HeldShare where there is no rest", fails(impl.HeldShare(1e38, 0, 1, 1e-10))},
		{"HeldShare of a great off", fails(impl.HeldShare(1, 1e20, 1, 1))},
	})
}

func TestSpinsThatAreRefused(t *testing.T) {
	offs, weights, waits := []float32{1, 2, 3}, []float32{3, 2, 1}, []float32{0.5, 1}
	for _, x := range notFinite() {
		what := " of " + say(x)
		for i := range offs {
			odd, odder := setAt(offs, i, x), setAt(weights, i, x)
			wantFailing(t, []failing{
				{"FreeDecay, offs" + what, fails(impl.FreeDecay(odd, weights, 0))},
				{"FreeDecay, weights" + what, fails(impl.FreeDecay(offs, odder, 0))},
				{"EchoOf, offs" + what, fails(impl.EchoOf(odd, weights, 1, 1))},
				{"EchoOf, weights" + what, fails(impl.EchoOf(offs, odder, 1, 1))},
				{"EchoesShared, offs" + what, fails(impl.EchoesShared(odd, weights, waits, 2))},
				{"EchoesShared, weights" + what, fails(impl.EchoesShared(offs, odder, waits, 2))},
			})
		}
		wantFailing(t, []failing{{"FreeDecay, time" + what, fails(impl.FreeDecay(offs, weights, x))}})
	}
	for _, x := range append(belowZero(), notFinite()...) {
		what := " of " + say(x)
		wantFailing(t, []failing{
			{"EchoOf, wait" + what, fails(impl.EchoOf(offs, weights, x, 1))},
			{"EchoOf, time" + what, fails(impl.EchoOf(offs, weights, 1, x))},
			{"EchoOf, both" + what, fails(impl.EchoOf(offs, weights, x, x))},
			{"EchoesShared, first" + what, fails(impl.EchoesShared(offs, weights, []float32{x, 1}, 1))},
			{"EchoesShared, second" + what, fails(impl.EchoesShared(offs, weights, []float32{1, x}, 3))},
		})
	}
	for _, x := range belowZero()[:3] {
		_, ok := impl.FreeDecay(offs, weights, x)
		wantBool(t, "FreeDecay before now", ok, true)
	}
	wantFailing(t, []failing{
		{"FreeDecay of infinite turns", fails(impl.FreeDecay([]float32{1e20, 0}, []float32{0, 1}, 1e20))},
		{"FreeDecay of great weights", fails(impl.FreeDecay([]float32{0, 0}, []float32{greatest, greatest}, 1))},
		{"FreeDecay of weights that are great in between", fails(impl.FreeDecay([]float32{0, 0, 0}, []float32{greatest, greatest, -greatest}, 1))},
		{"EchoOf of infinite turns", fails(impl.EchoOf([]float32{1e20, 0}, []float32{0, 1}, 0, 1e20))},
	})
}

func TestCountsOfSpins(t *testing.T) {
	for _, n := range []int{0, 1, 2, 31, 32, 33, 100} {
		for _, m := range []int{0, 1, 2, 31, 32, 33, 100} {
			offs, weights, what := repeatNumber(2, n), repeatNumber(3, m), fmt.Sprintf(" of %d and %d", n, m)
			if n == m && n >= 1 && n <= 32 {
				want := say(float32(3*n), true)
				wantTold(t, []told{
					{"FreeDecay" + what, say(impl.FreeDecay(offs, weights, 0)), want},
					{"EchoOf" + what, say(impl.EchoOf(offs, weights, 7, 7)), want},
					{"EchoesShared" + what, say(impl.EchoesShared(offs, weights, []float32{1}, 1)), say([]float32{float32(3 * n)}, true)},
				})
				continue
			}
			wantFailing(t, []failing{
				{"FreeDecay" + what, fails(impl.FreeDecay(offs, weights, 0))},
				{"EchoOf" + what, fails(impl.EchoOf(offs, weights, 1, 1))},
				{"EchoesShared" + what, fails(impl.EchoesShared(offs, weights, []float32{1}, 1))},
			})
		}
	}
}

// TestAllWorkersFindTheSameEchoes holds echoes by workers against those told one by one.
func TestAllWorkersFindTheSameEchoes(t *testing.T) {
	for count := 1; count <= 16; count++ {
		var waits, want []float32
		for i := range count {
			waits = append(waits, float32(i*i)/16)
			echo, _ := impl.EchoOf(someOffs, someWeights, waits[i], 1)
			want = append(want, echo)
		}
		for workers := int64(1); workers <= 8; workers++ {
			what := fmt.Sprintf("EchoesShared of %d by %d", count, workers)
			wantTold(t, []told{{what, say(impl.EchoesShared(someOffs, someWeights, waits, workers)), say(want, true)}})
			for i := range waits {
				odd := setAt(waits, i, -1)
				wantFailing(t, []failing{{what + " with one below 0", fails(impl.EchoesShared(someOffs, someWeights, odd, workers))}})
			}
		}
		for _, workers := range []int64{math.MinInt64, -1, 0, 9, 1 << 32, math.MaxInt64} {
			wantFailing(t, []failing{{fmt.Sprintf("EchoesShared by %d", workers), fails(impl.EchoesShared(someOffs, someWeights, waits, workers))}})
		}
	}
	for _, n := range []int{0, 17, 100} {
		wantFailing(t, []failing{{fmt.Sprintf("EchoesShared of %d", n), fails(impl.EchoesShared(someOffs, someWeights, repeatNumber(1, n), 1))}})
	}
}

func TestCrossingsAndDarkStatesThatFail(t *testing.T) {
	for _, x := range append(belowZero(), notFinite()...) {
		what := " of " + say(x)
		wantFailing(t, []failing{
			{"CrossShare, rate" + what, fails(impl.CrossShare(x, 1))},
			{"CrossShare, speed" + what, fails(impl.CrossShare(1, x))},
			{"CrossShare, speed beside no rate," + what, fails(impl.CrossShare(0, x))},
		})
	}
	for _, x := range notFinite() {
		wantFailing(t, []failing{
			{"DarkState, one of " + say(x), fails(impl.DarkState(x, 1))},
			{"DarkState, two of " + say(x), fails(impl.DarkState(1, x))},
		})
	}
	for _, x := range []float32{0, minusZero, least, -least, 1e-23, -1e-30} {
		wantFailing(t, []failing{
			{"CrossShare without speed", fails(impl.CrossShare(1, x*0))},
			{"DarkState of " + say(x), fails(impl.DarkState(x, 0))},
			{"DarkState, two of " + say(x), fails(impl.DarkState(minusZero, x))},
			{"DarkState, both of " + say(x), fails(impl.DarkState(x, -x))},
		})
	}
}

func TestLevelsThatAreRefused(t *testing.T) {
	for _, n := range []int64{math.MinInt64, -2, -1, 0, 7, 1 << 32, math.MaxInt64} {
		for _, length := range []int{0, 1, 4, 36, 49, 64} {
			list, what := repeatNumber(0, length), fmt.Sprintf(" of %d levels and %d rates", n, length)
			wantFailing(t, []failing{
				{"LevelBalance" + what, fails(impl.LevelBalance(n, list))},
				{"LevelSteps" + what, fails(impl.LevelSteps(n, list, repeatNumber(1, int(max(min(n, 7), 0))), 0.5, 0))},
			})
		}
	}
	for n := int64(1); n <= 6; n++ {
		for length := range 50 {
			list, what := repeatNumber(0, length), fmt.Sprintf(" of %d levels and %d rates", n, length)
			start := repeatNumber(1, int(n))
			if int64(length) != n*n {
				wantFailing(t, []failing{
					{"LevelBalance" + what, fails(impl.LevelBalance(n, list))},
					{"LevelSteps" + what, fails(impl.LevelSteps(n, list, start, 0.5, 0))},
				})
				continue
			}
			wantTold(t, []told{{"LevelSteps" + what, say(impl.LevelSteps(n, list, start, 0.5, 3)), say(start, true)}})
			for _, m := range []int64{0, n - 1, n + 1, n * n} {
				if m != n {
					wantFailing(t, []failing{{"LevelSteps of too few or many", fails(impl.LevelSteps(n, list, repeatNumber(1, int(m)), 0.5, 0))}})
				}
			}
		}
	}
}

func TestRatesOfLevelsThatAreRefused(t *testing.T) {
	start := []float32{1, 2, 3}
	for i := range threeRates {
		for _, x := range append(belowZero(), notFinite()...) {
			rates, what := setAt(threeRates, i, x), fmt.Sprintf(" with rate %d of %v", i, x)
			wantFailing(t, []failing{
				{"LevelBalance" + what, fails(impl.LevelBalance(3, rates))},
				{"LevelSteps" + what, fails(impl.LevelSteps(3, rates, start, 0.5, 0))},
			})
		}
		if i%4 == 0 {
			for _, x := range []float32{least, 1, greatest} {
				rates, what := setAt(threeRates, i, x), fmt.Sprintf(" with %v in the middle", x)
				wantFailing(t, []failing{
					{"LevelBalance" + what, fails(impl.LevelBalance(3, rates))},
					{"LevelSteps" + what, fails(impl.LevelSteps(3, rates, start, 0.5, 0))},
				})
			}
		}
	}
	for _, x := range notFinite() {
		for i := range start {
			wantFailing(t, []failing{{"LevelSteps from " + say(x), fails(impl.LevelSteps(3, threeRates, setAt(start, i, x), 0, 0))}})
		}
	}
	for _, x := range append(belowZero(), notFinite()...) {
		wantFailing(t, []failing{{"LevelSteps, h of " + say(x), fails(impl.LevelSteps(3, threeRates, start, x, 0))}})
	}
	for _, n := range wrongSteps() {
		wantFailing(t, []failing{{fmt.Sprintf("LevelSteps of %d steps", n), fails(impl.LevelSteps(3, threeRates, start, 0, n))}})
	}
	wantTold(t, []told{{"LevelSteps of 512 steps", say(impl.LevelSteps(3, threeRates, start, 0, 512)), say(start, true)}})
	wantFailing(t, []failing{
		{"LevelSteps that grow too far", fails(impl.LevelSteps(3, threeRates, start, greatest, 1))},
		{"LevelSteps that grow again and again", fails(impl.LevelSteps(3, threeRates, start, 100, 512))},
	})
}

// TestLevelsApart have no balance, or one only, by the rates between them.
func TestLevelsApart(t *testing.T) {
	for n := int64(2); n <= 6; n++ {
		wantFailing(t, []failing{{fmt.Sprintf("LevelBalance of %d levels without rates", n), fails(impl.LevelBalance(n, repeatNumber(0, int(n*n))))}})
		for stay := range n {
			rates, want := repeatNumber(0, int(n*n)), repeatNumber(0, int(n))
			want[stay] = 1
			for i := range n {
				if i != stay {
					rates[i*n+stay] = 1 + float32(i)/4
				}
			}
			shares, ok := impl.LevelBalance(n, rates)
			if !ok || !slices.Equal(shares, want) {
				t.Errorf("LevelBalance of %d levels that lead to %d: got %v %v", n, stay, shares, ok)
			}
		}
	}
	pairs := repeatNumber(0, 16)
	pairs[1], pairs[4], pairs[11], pairs[14] = 1, 1, 1, 1
	wantFailing(t, []failing{
		{"LevelBalance of pairs", fails(impl.LevelBalance(4, pairs))},
		{"LevelBalance of three, two of which only lead away", fails(impl.LevelBalance(3, []float32{0, 1, 1, 0, 0, 0, 0, 0, 0}))},
		{"LevelBalance of rates that grow too far", fails(impl.LevelBalance(3, []float32{0, greatest, 1, greatest, 0, greatest, greatest, greatest, 0}))},
	})
}

func TestLampsThatAreRefused(t *testing.T) {
	for _, x := range append([]float32{0, minusZero}, append(belowZero(), notFinite()...)...) {
		what := " of " + say(x)
		wantFailing(t, []failing{
			{"PumpLevel, loss" + what, fails(impl.PumpLevel(x, 1))},
			{"PumpLevel, gain" + what, fails(impl.PumpLevel(1, x))},
			{"LightOf, loss" + what, fails(impl.LightOf(1, x, 1, 1))},
			{"LightOf, gain" + what, fails(impl.LightOf(1, 1, x, 1))},
			{"LightSteps, loss" + what, fails(impl.LightSteps(1, 1, 1, x, 1, 1, 0.5, 0))},
			{"LightSteps, gain" + what, fails(impl.LightSteps(1, 1, 1, 1, x, 1, 0.5, 0))},
		})
	}
	for _, x := range append(belowZero(), notFinite()...) {
		what := " of " + say(x)
		wantFailing(t, []failing{
			{"LightOf, pump" + what, fails(impl.LightOf(x, 1, 1, 0))},
			{"LightOf, spill" + what, fails(impl.LightOf(0, 1, 1, x))},
			{"LightSteps, pump" + what, fails(impl.LightSteps(1, 1, x, 1, 1, 1, 0.5, 0))},
			{"LightSteps, spill" + what, fails(impl.LightSteps(1, 1, 1, 1, 1, x, 0.5, 0))},
			{"LightSteps, h" + what, fails(impl.LightSteps(1, 1, 1, 1, 1, 1, x, 0))},
		})
	}
	for _, x := range notFinite() {
		what := " of " + say(x)
		wantFailing(t, []failing{
			{"LightSteps, up" + what, fails(impl.LightSteps(x, 1, 1, 1, 1, 1, 0, 0))},
			{"LightSteps, light" + what, fails(impl.LightSteps(1, x, 1, 1, 1, 1, 0, 0))},
		})
	}
	for _, n := range wrongSteps() {
		wantFailing(t, []failing{{fmt.Sprintf("LightSteps of %d steps", n), fails(impl.LightSteps(1, 1, 1, 1, 1, 1, 0, n))}})
	}
	wantFailing(t, []failing{
		{"PumpLevel that is not finite", fails(impl.PumpLevel(greatest, 0.5))},
		{"LightOf a level that is not finite", fails(impl.LightOf(1, greatest, 0.5, 1))},
		{"LightOf a great pump", fails(impl.LightOf(1e20, 1, 1, 0))},
		{"LightOf great spills", fails(impl.LightOf(1e19, 1, 1, 1e20))},
		{"LightSteps that are up too far", fails(impl.LightSteps(1, -1e30, 1, 1, 1e10, 1, 1, 1))},
		{"LightSteps that light too far", fails(impl.LightSteps(1, 0, 1, 1, 1, greatest, 2, 1))},
		{"LightSteps that grow again and again", fails(impl.LightSteps(2, 1, 2, 1, 1, 1, 9, 512))},
	})
	wantTold(t, []told{
		{"LightSteps of 512 steps of 0", say(impl.LightSteps(-3, 7, 1, 1, 1, 1, 0, 512)), say(float32(-3), float32(7), true)},
		{"LightOf without pump", say(impl.LightOf(minusZero, 1, 1, minusZero)), say(float32(0), true)},
	})
}

func TestRingsThatAreRefused(t *testing.T) {
	for _, x := range append([]float32{1, 1.0000001, 2, greatest}, append(belowZero(), notFinite()...)...) {
		wantFailing(t, []failing{{"RingThrough, back of " + say(x), fails(impl.RingThrough(x, 0.5))}})
	}
	for _, x := range notFinite() {
		wantFailing(t, []failing{
			{"RingThrough, turns of " + say(x), fails(impl.RingThrough(0.5, x))},
			{"RingThrough of nothing, turns of " + say(x), fails(impl.RingThrough(0, x))},
		})
	}
}

func TestCombsThatAreRefused(t *testing.T) {
	for _, x := range notFinite() {
		what := " of " + say(x)
		wantFailing(t, []failing{
			{"CombPlaces, first" + what, fails(impl.CombPlaces(x, 1, 1))},
			{"CombNearest, first" + what, fails(impl.CombNearest(x, 1, 1))},
			{"CombNearest, place" + what, fails(impl.CombNearest(1, 1, x))},
		})
	}
	for _, x := range append([]float32{0, minusZero}, append(belowZero(), notFinite()...)...) {
		what := " of " + say(x)
		wantFailing(t, []failing{
			{"CombPlaces, step" + what, fails(impl.CombPlaces(0, x, 1))},
			{"CombNearest, step" + what, fails(impl.CombNearest(0, x, 0))},
			{"CombNearest, far, step" + what, fails(impl.CombNearest(0, x, 5))},
		})
	}
	for _, n := range []int64{math.MinInt64, -1, 0, 33, 1 << 32, math.MaxInt64} {
		wantFailing(t, []failing{{fmt.Sprintf("CombPlaces of %d", n), fails(impl.CombPlaces(0, 1, n))}})
	}
	places, ok := impl.CombPlaces(-3, 0.5, 32)
	if !ok || len(places) != 32 || places[0] != -3 || places[31] != 12.5 {
		t.Errorf("CombPlaces of 32: got %v %v", places, ok)
	}
	wantFailing(t, []failing{
		{"CombPlaces whose last one is not finite", fails(impl.CombPlaces(greatest, greatest, 2))},
		{"CombPlaces of great steps", fails(impl.CombPlaces(-greatest, greatest, 3))},
		{"CombNearest of infinite places", fails(impl.CombNearest(-greatest, 1, greatest))},
		{"CombNearest of infinite places below", fails(impl.CombNearest(greatest, 1, -greatest))},
		{"CombNearest of infinite places and great steps", fails(impl.CombNearest(-greatest, greatest, greatest))},
		{"CombNearest of an infinite quotient", fails(impl.CombNearest(0, least, 1))},
		{"CombNearest of an infinite quotient below", fails(impl.CombNearest(0, least, -1))},
		{"CombNearest too far", fails(impl.CombNearest(0, 1, 1000000.5))},
		{"CombNearest too far below", fails(impl.CombNearest(0, 1, -1000000.56))},
		{"CombNearest by far too far", fails(impl.CombNearest(0, 1, 1e30))},
		{"CombNearest by far too far below", fails(impl.CombNearest(0, 1, -1e30))},
	})
	wantTold(t, []told{
		{"CombNearest as far as possible", say(impl.CombNearest(0, 1, 1000000.44)), "1000000 true "},
		{"CombNearest as far below as possible", say(impl.CombNearest(0, 1, -1000000.5)), "-1000000 true "},
	})
}

// TestTeethAreNearestToThemselves finds each place of a comb, and what is a little off.
func TestTeethAreNearestToThemselves(t *testing.T) {
	for _, first := range []float32{-7.25, 0, 3} {
		for _, step := range []float32{0.125, 1, 2.5} {
			places, _ := impl.CombPlaces(first, step, 32)
			for i, place := range places {
				for _, off := range []float32{-0.5, -0.25, 0, 0.25, 0.375} {
					got, ok := impl.CombNearest(first, step, place+off*step)
					if !ok || got != int64(i) {
						t.Errorf("CombNearest of %v, %v, %v: got %d %v, want %d", first, step, place+off*step, got, ok, i)
					}
				}
			}
		}
	}
}
