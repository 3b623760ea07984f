package tests

import (
	"fmt"
	"math"
	"slices"
	"testing"

	"loop.example/g01403/impl"
)

// belowZero are finite numbers that are refused where a number must be at least 0.
func belowZero() []float32 { return []float32{-least, -0.5, -1, -greatest} }

func TestRotorsBelowZero(t *testing.T) {
	for _, x := range append(belowZero(), notFinite()...) {
		what := " of " + say(x)
		wantFailing(t, []failing{
			{"RotorLevels" + what, fails(impl.RotorLevels(x, 1, 3))},
			{"RotorLevels, bent," + what, fails(impl.RotorLevels(1, x, 3))},
			{"RotorLevels, only the first," + what, fails(impl.RotorLevels(x, x, 1))},
			{"TopLevels" + what, fails(impl.TopLevels(x, 1, 2))},
			{"TopLevels, other," + what, fails(impl.TopLevels(1, x, 2))},
			{"TopLevels, only the first," + what, fails(impl.TopLevels(x, x, 0))},
			{"FirstTops" + what, fails(impl.FirstTops(x, 1, 1))},
			{"FirstTops, second," + what, fails(impl.FirstTops(1, x, 1))},
			{"FirstTops, third," + what, fails(impl.FirstTops(1, 1, x))},
			{"RotorWeights" + what, fails(impl.RotorWeights(x, 1, 2))},
			{"RotorWeights, warm," + what, fails(impl.RotorWeights(1, x, 2))},
			{"BranchOf" + what, fails(impl.BranchOf(x, 1, 1, 0, 2))},
			{"BranchHead" + what, fails(impl.BranchHead(x, 1, 1, 2))},
			{"WeightsShared" + what, fails(impl.WeightsShared([]float32{1, x}, 1, 2, 2))},
			{"WeightsShared, warm," + what, fails(impl.WeightsShared([]float32{1}, x, 2, 2))},
		})
	}
	for _, x := range belowZero()[:3] {
		_, _, headed := impl.BranchHead(1, x, x, 3)
		for kind := int64(-1); kind <= 1; kind++ {
			_, ok := impl.BranchOf(1, x, x, kind, 3)
			wantBool(t, "a branch of "+say(x), ok && headed, true)
		}
	}
}

func TestBranchesOfWhatIsNotFinite(t *testing.T) {
	for _, x := range notFinite() {
		what := " of " + say(x)
		wantFailing(t, []failing{
			{"BranchOf, other," + what, fails(impl.BranchOf(1, x, 1, 1, 2))},
			{"BranchOf, other of nothing," + what, fails(impl.BranchOf(1, x, 1, 0, 1))},
			{"BranchOf, origin," + what, fails(impl.BranchOf(1, 1, x, 1, 2))},
			{"BranchHead, other," + what, fails(impl.BranchHead(1, x, 1, 2))},
			{"BranchHead, origin," + what, fails(impl.BranchHead(1, 1, x, 2))},
		})
	}
}

func TestRotorsOfWrongCounts(t *testing.T) {
	for _, n := range []int64{math.MinInt64, -1, 0, 41, 1 << 32, math.MaxInt64} {
		what := fmt.Sprintf(" of count %d", n)
		wantFailing(t, []failing{
			{"RotorLevels" + what, fails(impl.RotorLevels(1, 0, n))},
			{"RotorWeights" + what, fails(impl.RotorWeights(1, 1, n))},
			{"BranchOf" + what, fails(impl.BranchOf(1, 1, 1, 1, n))},
			{"BranchHead" + what, fails(impl.BranchHead(1, 1, 1, n))},
			{"WeightsShared" + what, fails(impl.WeightsShared([]float32{1}, 1, n, 1))},
		})
	}
	for _, j := range []int64{math.MinInt64, -1, 41, 1 << 32, math.MaxInt64} {
		wantFailing(t, []failing{{fmt.Sprintf("TopLevels of j %d", j), fails(impl.TopLevels(1, 1, j))}})
	}
	for _, kind := range []int64{math.MinInt64, -2, 2, 1 << 32, math.MaxInt64} {
		wantFailing(t, []failing{{fmt.Sprintf("BranchOf of kind %d", kind), fails(impl.BranchOf(1, 1, 1, kind, 3))}})
	}
}

func TestRotorsThatAreNotFinite(t *testing.T) {
	wantFailing(t, []failing{
		{"RotorLevels whose last one is not finite", fails(impl.RotorLevels(greatest, 0, 2))},
		{"RotorLevels that are -infinity", fails(impl.RotorLevels(0, greatest, 2))},
		{"RotorLevels that are no numbers", fails(impl.RotorLevels(greatest, greatest, 2))},
		{"TopLevels whose first one is not finite", fails(impl.TopLevels(0, greatest, 1))},
		{"TopLevels whose last one is not finite", fails(impl.TopLevels(greatest, 0, 2))},
		{"FirstTops with a first sum that is not finite", fails(impl.FirstTops(greatest, greatest, 0))},
		{"FirstTops with a second sum that is not finite", fails(impl.FirstTops(greatest, 0, greatest))},
		{"FirstTops with a third sum that is not finite", fails(impl.FirstTops(0, greatest, greatest))},
		{"BranchOf with a last line that is not finite", fails(impl.BranchOf(0, greatest, 0, 0, 2))},
		{"BranchOf with a line that is -infinity", fails(impl.BranchOf(greatest, 0, 0, -1, 1))},
		{"BranchOf with a line that is no number", fails(impl.BranchOf(greatest, greatest, 0, 0, 2))},
		{"BranchHead of a last line that is not finite", fails(impl.BranchHead(0, greatest, 0, 1))},
		{"BranchHead of a lesser line that is not finite", fails(impl.BranchHead(greatest, 0, 0, 2))},
	})
	wantTold(t, []told{
		{"RotorLevels before what is not finite", say(impl.RotorLevels(greatest, greatest, 1)), "00000000,true "},
		{"TopLevels of the greatest numbers", say(impl.TopLevels(greatest, greatest, 0)), "00000000,true "},
		{"FirstTops with a sum at the limit", say(impl.FirstTops(greatest, 0, 0)), "7f7fffff,7f7fffff,00000000,true "},
		{"BranchOf before what is not finite", say(impl.BranchOf(greatest, greatest, 3, 0, 1)), "40400000,true "},
		{"RotorWeights whose powers are -infinity", say(impl.RotorWeights(greatest, 1, 3)), "3f800000,00000000,00000000,true "},
		{"RotorWeights of the least warmth", say(impl.RotorWeights(1, least, 3)), "3f800000,00000000,00000000,true "},
		{"RotorWeights of the greatest warmth", say(impl.RotorWeights(1, greatest, 2)), "3e800000,3f400000,true "},
	})
}

func TestZerosOfRotors(t *testing.T) {
	wantTold(t, []told{
		{"RotorLevels of -0", say(impl.RotorLevels(minusZero, 0, 2)), "80000000,80000000,true "},
		{"RotorLevels less -0", say(impl.RotorLevels(minusZero, minusZero, 2)), "00000000,00000000,true "},
		{"TopLevels of -0", say(impl.TopLevels(minusZero, minusZero, 1)), "00000000,00000000,true "},
		{"FirstTops of -0, which begin with +0", say(impl.FirstTops(minusZero, minusZero, minusZero)), "00000000,00000000,00000000,true "},
		{"RotorWeights of -0", say(impl.RotorWeights(minusZero, 1, 2)), "3e800000,3f400000,true "},
		{"BranchOf of -0", say(impl.BranchOf(0, minusZero, minusZero, 0, 2)), "80000000,80000000,true "},
		{"BranchOf less -0", say(impl.BranchOf(minusZero, minusZero, minusZero, 0, 1)), "00000000,true "},
		{"BranchHead of a place of -0", say(impl.BranchHead(0, minusZero, minusZero, 3)), "0 80000000 true "},
	})
}

func TestRotorsAtTheirLimits(t *testing.T) {
	levels, one := impl.RotorLevels(1, 0, 40)
	tops, two := impl.TopLevels(2, 1, 40)
	weights, three := impl.RotorWeights(0, 1, 40)
	lines, four := impl.BranchOf(0, 1, 0, 1, 40)
	place, head, five := impl.BranchHead(0, 1, 0, 40)
	wantBool(t, "rotors of 40", one && two && three && four && five, true)
	if len(levels) != 40 || levels[39] != 1560 || len(tops) != 41 || tops[40] != 3240 || len(weights) != 40 || weights[39] != 79./1600 {
		t.Errorf("rotors of 40: got %v, %v and %v", levels, tops, weights)
	}
	if len(lines) != 40 || lines[39] != 1640 || place != 39 || head != 1640 {
		t.Errorf("a branch of 40: got %v, %d and %v", lines, place, head)
	}
}

// TestRotorStatesAreSquares holds sums of odd numbers against squares.
func TestRotorStatesAreSquares(t *testing.T) {
	for _, b := range []int64{1, 2, 7, 999, 1000} {
		for j := int64(0); b*j*(j+1) <= 1000000; j++ {
			reach := b * j * (j + 1)
			at, ok := impl.RotorStates(b, reach)
			if !ok || at != (j+1)*(j+1) {
				t.Errorf("RotorStates of %d, %d: got %d %v", b, reach, at, ok)
			}
			if below, ok := impl.RotorStates(b, reach-1); j > 0 && (!ok || below != j*j) {
				t.Errorf("RotorStates of %d, %d: got %d %v", b, reach-1, below, ok)
			}
		}
	}
	for _, n := range []int64{math.MinInt64, -1, 0, 1001, 1 << 32, math.MaxInt64} {
		wantFailing(t, []failing{{fmt.Sprintf("RotorStates of b %d", n), fails(impl.RotorStates(n, 6))}})
	}
	for _, n := range []int64{math.MinInt64, -1, 1000001, 1 << 32, math.MaxInt64} {
		wantFailing(t, []failing{{fmt.Sprintf("RotorStates up to %d", n), fails(impl.RotorStates(1, n))}})
	}
}

// TestHeadsAreTheFirstGreatestPlaces looks at branches some of which have their greatest place twice.
func TestHeadsAreTheFirstGreatestPlaces(t *testing.T) {
	for b := float32(1); b < 12; b++ {
		for other := float32(-2); other < 12; other++ {
			lines, _ := impl.BranchOf(b, other, 100, 1, 30)
			at, head, ok := impl.BranchHead(b, other, 100, 30)
			most := slices.Max(lines)
			if !ok || head != most || at != int64(slices.Index(lines, most)) {
				t.Errorf("BranchHead of %v, %v: got %d %v %v of %v", b, other, at, head, ok, lines)
			}
		}
	}
}

// TestNoWorkersAreNeededForNone passes what is refused otherwise.
func TestNoWorkersAreNeededForNone(t *testing.T) {
	for _, n := range []int64{math.MinInt64, -1, 0, 9, 41, math.MaxInt64} {
		for _, x := range append(belowZero(), notFinite()...) {
			what := fmt.Sprintf("WeightsShared of none, %s and %d", say(x), n)
			wantTold(t, []told{
				{what, say(impl.WeightsShared(nil, x, n, n)), "true "},
				{what, say(impl.WeightsShared([]float32{}, x, n, n)), "true "},
			})
		}
	}
}

func TestAllWorkersFindTheSameWeights(t *testing.T) {
	for count := 1; count <= 16; count++ {
		var bs, want []float32
		for i := range count {
			bs = append(bs, float32(i*i)/64)
			weights, _ := impl.RotorWeights(bs[i], 1.75, 6)
			want = append(want, weights[5])
		}
		for workers := int64(1); workers <= 8; workers++ {
			what := fmt.Sprintf("WeightsShared of %d by %d", count, workers)
			wantTold(t, []told{{what, say(impl.WeightsShared(bs, 1.75, 6, workers)), say(want, true)}})
			for i := range bs {
				odd := slices.Clone(bs)
				odd[i] = -1
				wantFailing(t, []failing{{what + " with one below 0", fails(impl.WeightsShared(odd, 1.75, 6, workers))}})
			}
		}
		for _, workers := range []int64{math.MinInt64, -1, 0, 9, 1 << 32, math.MaxInt64} {
			wantFailing(t, []failing{{fmt.Sprintf("WeightsShared by %d", workers), fails(impl.WeightsShared(bs, 1, 2, workers))}})
		}
	}
	wantFailing(t, []failing{{"WeightsShared of 17", fails(impl.WeightsShared(repeatNumber(1, 17), 1, 2, 1))}})
}
