package tests

import (
	"math"
	"testing"

	"loop.example/g01403/impl"
)

// TestRestsStay steps from vectors that stay, and to them.
func TestRestsStay(t *testing.T) {
	walkFor(200, 61, func(r [4]uint32) []int64 {
		rate, off := between(r[0], -1, 1), between(r[1], -1, 1)
		one, two := between(r[2], 0.5, 1), between(r[3], 0.5, 1)
		rest, ok := impl.DampRest(rate, off, one, two)
		wantBool(t, "DampRest", ok, true)
		stayed, _ := impl.DampSteps(rest, rate, off, one, two, 0.0625, 100)
		nearNumbers(t, "a vector that stays", stayed, rest, 1e-6)
		reached, _ := impl.DampSteps([]float32{0.3, -0.6, -1}, rate, off, one, two, 0.0625, 512)
		nearNumbers(t, "a vector behind steps", reached, rest, 1e-4)
		held, ok := impl.HeldShare(rate, off, one, two)
		wantBool(t, "HeldShare", ok && held >= 0 && held < 0.5, true)
		near(t, "what is held up", float64(held), (1-float64(rest[2]))/2, 1e-7)
		return nil
	})
}

// someRates lead from each of n levels to each.
func someRates(n int, r [4]uint32) []float32 {
	rates := repeatNumber(0, n*n)
	for i := range rates {
		if i/n != i%n {
			rates[i] = between((r[i%4]>>(i/4)|1)*2654435761, 0.0625, 1)
		}
	}
	return rates
}

// TestBalancesStay steps from shares that stay, and to them, and keeps their sum.
func TestBalancesStay(t *testing.T) {
	walkFor(500, 62, func(r [4]uint32) []int64 {
		n := 2 + int(r[0]%5)
		rates, start := someRates(n, r), repeatNumber(0, n)
		start[r[1]%uint32(n)] = 1
		shares, ok := impl.LevelBalance(int64(n), rates)
		wantBool(t, "LevelBalance", ok, true)
		sum := 0.0
		for _, x := range shares {
			sum += float64(x)
			wantBool(t, "a share is at least 0", x >= 0, true)
		}
		near(t, "the sum of shares", sum, 1, 1e-6)
		stayed, _ := impl.LevelSteps(int64(n), rates, shares, 0.125, 10)
		nearNumbers(t, "shares that stay", stayed, shares, 2e-6)
		reached, _ := impl.LevelSteps(int64(n), rates, start, 0.125, 512)
		nearNumbers(t, "shares behind steps", reached, shares, 1e-4)
		early, _ := impl.LevelSteps(int64(n), rates, start, 0.125, 5)
		sum = 0
		for _, x := range early {
			sum += float64(x)
		}
		near(t, "the sum of shares behind steps", sum, 1, 2e-6)
		return nil
	})
}

// TestBalancesOfTwoLevels are told by the share of the other rate.
func TestBalancesOfTwoLevels(t *testing.T) {
	for _, up := range []float32{0.25, 1, 3, 10} {
		for _, down := range []float32{0.5, 1, 7} {
			shares, _ := impl.LevelBalance(2, []float32{0, up, down, 0})
			nearNumbers(t, "shares of two levels", shares, []float32{down / (up + down), up / (up + down)}, 1e-6)
		}
	}
}

// TestLampsLightFromTheirPumpOn has light behind steps that is told at once, for a loss and a gain of 1.
func TestLampsLightFromTheirPumpOn(t *testing.T) {
	for _, loss := range []float32{0.5, 1, 2} {
		for _, gain := range []float32{0.25, 1, 4} {
			level, ok := impl.PumpLevel(loss, gain)
			wantBool(t, "PumpLevel", ok, true)
			for _, more := range []float32{0.25, 1, 3} {
				below, _ := impl.LightOf(level/(1+more), loss, gain, 0)
				above, _ := impl.LightOf(level+more, loss, gain, 0)
				near(t, "light below its pump", float64(below), 0, 1e-6)
				near(t, "light above its pump", float64(above), float64(more), 1e-5)
			}
		}
	}
	for _, pump := range []float32{0.25, 0.5, 2, 3} {
		for _, spill := range []float32{1e-3, 0.125, 1} {
			want, _ := impl.LightOf(pump, 1, 1, spill)
			up, light, ok := impl.LightSteps(0, 0, pump, 1, 1, spill, 0.125, 512)
			wantBool(t, "LightSteps", ok, true)
			near(t, "light behind steps", float64(light), float64(want), 1e-4)
			near(t, "what is up behind steps", float64(up), float64(pump)/(1+float64(want)), 1e-4)
		}
	}
}

// TestDarkStatesAreNotDriven holds them upright to both rates.
func TestDarkStatesAreNotDriven(t *testing.T) {
	for _, one := range []float32{-2, -0.1, 0, 1, 3} {
		for _, two := range []float32{-5, 0.25, 1, 12} {
			dark, ok := impl.DarkState(one, two)
			wantBool(t, "DarkState", ok && len(dark) == 2, true)
			near(t, "the length of a dark state", lengthOf(dark), 1, 1e-6)
			near(t, "what drives a dark state", float64(one)*float64(dark[0])+float64(two)*float64(dark[1]), 0, 1e-5)
		}
	}
}

// TestCrossingsArePassedFast holds CrossShare against powers of e.
func TestCrossingsArePassedFast(t *testing.T) {
	for _, rate := range []float32{0, 0.125, 0.5, 1, 2} {
		for _, speed := range []float32{0.25, 1, 8} {
			share, ok := impl.CrossShare(rate, speed)
			want := math.Exp(-math.Pi / 2 * float64(rate) * float64(rate) / float64(speed))
			wantBool(t, "CrossShare", ok && share <= 1, true)
			near(t, "a crossing", float64(share), want, 1e-6)
		}
	}
}

// TestRingsLetAllThroughAtWholeTurns, and least at half ones.
func TestRingsLetAllThroughAtWholeTurns(t *testing.T) {
	for _, back := range []float32{0, 0.125, 0.5, 0.9, 0.99999994} {
		least := math.Pow((1-float64(back))/(1+float64(back)), 2)
		for turns := float32(-2); turns <= 2; turns += 0.0625 {
			through, ok := impl.RingThrough(back, turns)
			wantBool(t, "RingThrough", ok && through <= 1.000001 && float64(through) >= least*0.999999, true)
			next, _ := impl.RingThrough(back, turns+1)
			near(t, "a ring a turn further", float64(next), float64(through), 1e-6)
			turned, _ := impl.RingThrough(back, -turns)
			near(t, "a ring the other way round", float64(turned), float64(through), 1e-6)
			switch turns {
			case -2, -1, 0, 1, 2:
				wantBits(t, "a ring at whole turns", through, oneBits)
			case -1.5, -0.5, 0.5, 1.5:
				near(t, "a ring at half turns", float64(through), least, 1e-6*least)
			}
		}
	}
}
