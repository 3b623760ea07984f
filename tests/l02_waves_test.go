package tests

import (
	"math"
	"testing"

	"loop.example/g01403/impl"
)

func TestEnergiesAtAHeight(t *testing.T) {
	high := impl.Steps{Heights: []float32{minusZero}}
	wantFailing(t, []failing{
		{"WaveNumbers at the only height", fails(impl.WaveNumbers(free, 0))},
		{"WaveNumbers at a height of -0", fails(impl.WaveNumbers(high, 0))},
		{"WaveNumbers at a zero of another sign", fails(impl.WaveNumbers(free, minusZero))},
		{"WaveNumbers at the first height", fails(impl.WaveNumbers(stair, 0))},
		{"WaveNumbers at the last height", fails(impl.WaveNumbers(stair, 3))},
		{"WaveNumbers at a height between", fails(impl.WaveNumbers(wall, 2))},
		{"WaveAmounts at the only height", fails(impl.WaveAmounts(free, 0))},
		{"WaveAmounts at the first height", fails(impl.WaveAmounts(stair, 0))},
		{"WaveAmounts at the last height", fails(impl.WaveAmounts(stair, 3))},
		{"WaveAmounts at a height between", fails(impl.WaveAmounts(wall, 2))},
		{"StepShares at the only height", fails(impl.StepShares(free, 0))},
		{"StepShares at a height between", fails(impl.StepShares(wall, 2))},
		{"BestThrough at a height at first", fails(impl.BestThrough(wall, 2, 4, 3))},
		{"BestThrough at a height between", fails(impl.BestThrough(wall, 1, 3, 3))},
		{"BestThrough at a height at last", fails(impl.BestThrough(wall, 1, 2, 3))},
		{"SharesShared at a height at first", fails(impl.SharesShared(wall, []float32{2, 3}, 2))},
		{"SharesShared at a height at last", fails(impl.SharesShared(wall, []float32{1, 3, 4, 2}, 3))},
		{"CellTurns at a height of the cell", fails(impl.CellTurns(cell, 5))},
		{"CellTurns at the height before the cell", fails(impl.CellTurns(wall, 0))},
		{"IsBand at a height", fails(impl.IsBand(cell, 5))},
		{"BandEdges at a height at first", fails(impl.BandEdges(cell, 5, 6, 2, 1))},
		{"BandEdges at a height between", fails(impl.BandEdges(cell, 4, 6, 3, 1))},
		{"BandEdges at a height at last", fails(impl.BandEdges(cell, 4, 5, 3, 1))},
	})
}

// TestEnergiesNextToAHeight holds the wave numbers of the least differences against the roots of these.
func TestEnergiesNextToAHeight(t *testing.T) {
	one := impl.Steps{Heights: []float32{1}}
	wantTold(t, []told{
		{"a little above 0", say(impl.WaveNumbers(free, least)), "1a3504f3+00000000,true "},
		{"a little below 0", say(impl.WaveNumbers(free, -least)), "00000000+1a3504f3,true "},
		{"a little above 1", say(impl.WaveNumbers(one, num(oneBits+1))), "39b504f3+00000000,true "},
	})
}

func TestSharesThatDoNotExist(t *testing.T) {
	deep, far := impl.Steps{Heights: []float32{-greatest}}, impl.Steps{Edges: []float32{-greatest, greatest}, Heights: []float32{0, 5, 0}}
	thick := func(width, height float32) impl.Steps {
		return impl.Steps{Edges: []float32{0, width}, Heights: []float32{0, height, 0}}
	}
	wantFailing(t, []failing{
		{"WaveNumbers that are not finite", fails(impl.WaveNumbers(deep, greatest))},
		{"WaveNumbers upright that are not finite", fails(impl.WaveNumbers(impl.Steps{Heights: []float32{greatest}}, -greatest))},
		{"WaveAmounts of wave numbers that are not finite", fails(impl.WaveAmounts(impl.Steps{Edges: []float32{0}, Heights: []float32{-greatest, 0}}, greatest))},
		{"WaveAmounts behind a wall that is too thick", fails(impl.WaveAmounts(thick(100, 2), 1))},
		{"WaveAmounts of which only the first is not finite", fails(impl.WaveAmounts(impl.Steps{Edges: []float32{0, 88.4375}, Heights: []float32{0, 1.5, -1}}, 0.5))},
		{"WaveAmounts of which only the second is not finite", fails(impl.WaveAmounts(thick(176.875, 1.5), 1.25))},
		{"WaveAmounts of a turn that is not finite", fails(impl.WaveAmounts(far, 9))},
		{"StepShares from below", fails(impl.StepShares(impl.Steps{Edges: []float32{0}, Heights: []float32{3, 0}}, 1))},
		{"StepShares to below", fails(impl.StepShares(stair, 1))},
		{"StepShares of nothing", fails(impl.StepShares(free, -1))},
		{"StepShares of powers that are not finite", fails(impl.StepShares(thick(40, 5), 1))},
		{"BestThrough to below", fails(impl.BestThrough(stair, 1, 4, 4))},
		{"SharesShared to below", fails(impl.SharesShared(stair, []float32{4, 5, 1}, 2))},
	})
	wantTold(t, []told{
		{"WaveAmounts of powers that are not finite", say(impl.WaveAmounts(thick(40, 5), 1)), "78aabbce+78800cda 00000000+f8d56ac2 true "},
		{"StepShares that are nearly nothing", say(impl.StepShares(thick(45, 2), 1)), "0023b0a1 3f800000 true "},
	})
}

func TestEnergiesThatAreRefused(t *testing.T) {
	for _, count := range []int64{math.MinInt64, -1, 0, 1, 65, math.MaxInt64} {
		wantFailing(t, []failing{
			{"BestThrough of a count", fails(impl.BestThrough(free, 1, 3, count))},
			{"BandEdges of a count", fails(impl.BandEdges(cell, 1, 3, count, 3))},
		})
	}
	wantFailing(t, []failing{
		{"BestThrough of one energy", fails(impl.BestThrough(free, 3, 3, 2))},
		{"BestThrough downwards", fails(impl.BestThrough(free, 3, 1, 2))},
		{"BestThrough of energies too far apart", fails(impl.BestThrough(impl.Steps{Heights: []float32{-greatest}}, -1e38, greatest, 2))},
		{"BandEdges of one energy", fails(impl.BandEdges(cell, 3, 3, 2, 3))},
		{"BandEdges downwards", fails(impl.BandEdges(cell, 3, 1, 2, 3))},
		{"BandEdges of energies too far apart", fails(impl.BandEdges(cell, -greatest, greatest, 2, 3))},
	})
}

func TestTheFirstOfTheBestEnergies(t *testing.T) {
	for _, count := range []int64{2, 3, 63, 64} {
		energy, most, ok := impl.BestThrough(free, 1.25, 9, count)
		wantTold(t, []told{{"BestThrough where all goes through", say(energy, most, ok), say(float32(1.25), float32(1), true)}})
	}
}

// TestSharesAreThoseOfAnyWorkers holds what workers tell against what one call for each energy tells.
func TestSharesAreThoseOfAnyWorkers(t *testing.T) {
	var energies, want []float32
	for i := range impl.MaxGrid {
		energies = append(energies, 2.5+float32(i)*0.37)
		through, _, ok := impl.StepShares(rough, energies[i])
		wantBool(t, "StepShares", ok, true)
		want = append(want, through)
		for workers := int64(1); workers <= impl.MaxWorkers; workers++ {
			shares, ok := impl.SharesShared(rough, energies, workers)
			if !ok || !sameNumbers(shares, want) {
				t.Errorf("%d energies, %d workers: got %v %v, want %v", i+1, workers, shares, ok, want)
			}
		}
	}
	for _, workers := range []int64{math.MinInt64, -1, 0, 9, math.MaxInt64} {
		wantFailing(t, []failing{{"SharesShared of workers", fails(impl.SharesShared(rough, energies, workers))}})
	}
	wantFailing(t, []failing{
		{"SharesShared of no energies", fails(impl.SharesShared(rough, nil, 1))},
		{"SharesShared of an empty list", fails(impl.SharesShared(rough, []float32{}, 1))},
		{"SharesShared of 49 energies", fails(impl.SharesShared(rough, append(energies, 9), 1))},
	})
}
