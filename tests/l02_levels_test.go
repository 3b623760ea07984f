package tests

import (
	"fmt"
	"math"
	"testing"

	"loop.example/g01403/impl"
)

func TestLevelsThatDoNotExist(t *testing.T) {
	for _, x := range []float32{0, minusZero, -least, -1, -greatest} {
		what := " of " + say(x)
		wantFailing(t, []failing{
			{"BoxLevels" + what, fails(impl.BoxLevels(x, 1))},
			{"SwingLevels" + what, fails(impl.SwingLevels(x, 1))},
			{"BendLevels with a rate" + what, fails(impl.BendLevels(x, 1))},
			{"BendLevels with a bend" + what, fails(impl.BendLevels(1, x))},
			{"WellCount of a width" + what, fails(impl.WellCount(x, 1))},
			{"WellCount of a depth" + what, fails(impl.WellCount(1, x))},
		})
	}
	for _, count := range []int64{math.MinInt64, -1, 0, 49, math.MaxInt64} {
		what := fmt.Sprintf(" of count %d", count)
		wantFailing(t, []failing{
			{"BoxLevels" + what, fails(impl.BoxLevels(1, count))},
			{"SwingLevels" + what, fails(impl.SwingLevels(1, count))},
		})
	}
	wantFailing(t, []failing{
		{"BoxLevels that are not finite", fails(impl.BoxLevels(1e-19, 1))},
		{"BoxLevels whose last one is not finite", fails(impl.BoxLevels(4e-19, 3))},
		{"SwingLevels whose last one is not finite", fails(impl.SwingLevels(greatest, 2))},
		{"BendLevels whose second one is not finite", fails(impl.BendLevels(3e38, 1))},
		{"WellCount of more than 1000", fails(impl.WellCount(math.Pi, 1000002))},
		{"WellCount of a number that is not finite", fails(impl.WellCount(greatest, greatest))},
	})
}

func TestLevelsAtTheirLimits(t *testing.T) {
	wantTold(t, []told{
		{"BoxLevels of a great width", say(impl.BoxLevels(greatest, 1)), "00000000,true "},
		{"SwingLevels that are greatest", say(impl.SwingLevels(greatest, 1)), "7f7fffff,true "},
		{"BendLevels of the same ones", say(impl.BendLevels(2, 1)), "3f400000,true "},
		{"BendLevels before what is no number", say(impl.BendLevels(greatest, greatest)), "7e7fffff,true "},
		{"BendLevels before what is -infinity", say(impl.BendLevels(1, greatest)), "fe7fffff,true "},
		{"BendLevels that vanish", say(impl.BendLevels(least, least)), "00000000,true "},
		{"WellCount of a quotient of 1", say(impl.WellCount(math.Pi, 1)), "1 true "},
		{"WellCount of a little more", say(impl.WellCount(math.Nextafter32(math.Pi, 4), 1)), "2 true "},
		{"WellCount of a little less", say(impl.WellCount(math.Nextafter32(math.Pi, 3), 1)), "1 true "},
		{"WellCount of a quotient of 2", say(impl.WellCount(2*math.Pi, 1)), "2 true "},
		{"WellCount of 1000", say(impl.WellCount(math.Pi, 1000000)), "1000 true "},
		{"WellCount of a quotient that vanishes", say(impl.WellCount(1e-38, 1e-38)), "0 true "},
	})
	box, _ := impl.BoxLevels(math.Pi, 48)
	swing, _ := impl.SwingLevels(0.5, 48)
	bend, ok := impl.BendLevels(4, 1e-6)
	if !ok || len(box) != 48 || len(swing) != 48 || len(bend) != 48 || swing[47] != 47.5 {
		t.Errorf("48 levels: got %v, %v and %v", box, swing, bend)
	}
}

func TestGridRowsAtTheirLimits(t *testing.T) {
	for _, n := range []int64{math.MinInt64, -1, 0, 1, 49, math.MaxInt64} {
		wantFailing(t, []failing{{fmt.Sprintf("GridRows of %d places", n), fails(impl.GridRows(wall, 0, 3, n))}})
	}
	wantFailing(t, []failing{
		{"GridRows of no width", fails(impl.GridRows(wall, 3, 3, 2))},
		{"GridRows downwards", fails(impl.GridRows(wall, 3, 0, 2))},
		{"GridRows of a small width", fails(impl.GridRows(free, 0, 1e-19, 2))},
		{"GridRows of too great a width", fails(impl.GridRows(free, -greatest, greatest, 2))},
		{"GridRows of one that is not finite", fails(impl.GridRows(impl.Steps{Edges: []float32{2e-19}, Heights: []float32{-greatest, greatest}}, 0, 3.2e-19, 2))},
	})
	wantTold(t, []told{
		{"GridRows of a great width", say(impl.GridRows(free, 0, 1e30, 2)), "00000000,00000000,00000000 true "},
		{"GridRows that begin at an edge", say(impl.GridRows(wall, -1, 2, 2)), "40800000,40000000,bf800000 true "},
	})
	rows, beside, ok := impl.GridRows(free, 0, 49, 48)
	if !ok || beside != -1 || !sameNumbers(rows, repeatNumber(2, 48)) {
		t.Errorf("GridRows of 48 places: got %v %v %v", rows, beside, ok)
	}
}

func TestRowsThatVanish(t *testing.T) {
	vanishing := num(0x409ff7cf) // 5 less 0.001
	wantTold(t, []told{
		{"CountBelow of one", say(impl.CountBelow([]float32{5}, 1, 5)), "0 true "},
		{"CountBelow of two", say(impl.CountBelow([]float32{0, 0}, 1, 0)), "1 true "},
		{"CountBelow of two of -0", say(impl.CountBelow([]float32{minusZero, minusZero}, 1, 0)), "1 true "},
		{"CountBelow of the second", say(impl.CountBelow([]float32{1, 1}, 1, 0)), "0 true "},
		{"CountBelow behind the second", say(impl.CountBelow([]float32{1, 1, 1}, 1, 0)), "1 true "},
		{"CountBelow without neighbours", say(impl.CountBelow([]float32{0, 0, 0}, 0, 0)), "0 true "},
		{"CountBelow of four", say(impl.CountBelow([]float32{5, 5, 5, 5}, 2, 5)), "2 true "},
		{"CountBelow beside what is not finite", say(impl.CountBelow([]float32{3, 3, 3}, -1e30, 4)), "1 true "},
		{"StateOf one", say(impl.StateOf([]float32{vanishing}, 2, 5, 3)), "3f800000,true "},
		{"StateOf two", say(impl.StateOf([]float32{vanishing, vanishing}, 1, 5, 1)), "3f36359c,3f33d246,true "},
		{"StateOf two, two rounds", say(impl.StateOf([]float32{vanishing, vanishing}, 1, 5, 2)), "3f357681,3f349320,true "},
		{"StateOf the first and the last", say(impl.StateOf([]float32{vanishing, 3, vanishing}, 0.5, 5, 2)), "bf3504c1,35bef485,3f350525,true "},
		{"StateOf the last one", say(impl.StateOf([]float32{3, vanishing}, 0, 5, 2)), "2a8ce0da,3f800000,true "},
		{"StateOf what vanishes by steps", say(impl.StateOf([]float32{1, 1, 3}, 1, 0.001, 4)), "3f223810,bf3d1ed4,3e6b195a,true "},
	})
}

func TestRowsThatAreRefused(t *testing.T) {
	for _, n := range []int{0, 49, 300} {
		rows, what := repeatNumber(2, n), fmt.Sprintf(" of %d rows", n)
		wantFailing(t, []failing{
			{"CountBelow" + what, fails(impl.CountBelow(rows, -1, 2))},
			{"LevelOf" + what, fails(impl.LevelOf(rows, -1, 0, 3))},
			{"GridLevels" + what, fails(impl.GridLevels(rows, -1, 1, 3))},
			{"StateOf" + what, fails(impl.StateOf(rows, -1, 2, 3))},
			{"MeanPlace" + what, fails(impl.MeanPlace(rows, 0, 3))},
			{"OverlapOf" + what, fails(impl.OverlapOf(rows, rows))},
		})
	}
	two := []float32{2, 2}
	for _, k := range []int64{math.MinInt64, -1, 2, math.MaxInt64} {
		wantFailing(t, []failing{
			{fmt.Sprintf("LevelOf, level %d", k), fails(impl.LevelOf(two, -1, k, 3))},
			{fmt.Sprintf("GridLevels of count %d", k+1), fails(impl.GridLevels(two, -1, k+1, 3))},
		})
	}
	for _, rounds := range []int64{math.MinInt64, -1, 0, 41, math.MaxInt64} {
		wantFailing(t, []failing{
			{fmt.Sprintf("LevelOf with %d rounds", rounds), fails(impl.LevelOf(two, -1, 0, rounds))},
			{fmt.Sprintf("GridLevels with %d rounds", rounds), fails(impl.GridLevels(two, -1, 1, rounds))},
			{fmt.Sprintf("StateOf with %d rounds", rounds), fails(impl.StateOf(two, -1, 1, rounds))},
		})
	}
	wantFailing(t, []failing{
		{"StateOf with 9 rounds", fails(impl.StateOf(two, -1, 1, 9))},
		{"StateOf one that is too great", fails(impl.StateOf([]float32{1e30}, 0, 0, 1))},
		{"LevelOf between numbers too far apart", fails(impl.LevelOf([]float32{3e38, 3e38}, 0, 0, 1))},
		{"LevelOf beside what is too great", fails(impl.LevelOf(two, 3e38, 0, 1))},
	})
}

func TestRowsAtTheirLimits(t *testing.T) {
	level, ok := impl.LevelOf(repeatNumber(2, 48), -1, 47, 40)
	wantBool(t, "LevelOf of 48 rows", ok && level > 3.99 && level < 4, true)
	levels, ok := impl.GridLevels(repeatNumber(2, 48), -1, 48, 40)
	wantBool(t, "GridLevels of 48 rows", ok && len(levels) == 48 && levels[47] == level, true)
	state, ok := impl.StateOf(repeatNumber(2, 48), -1, levels[0], 8)
	wantBool(t, "StateOf of 48 rows", ok && len(state) == 48, true)
	wantTold(t, []told{
		{"GridLevels of one", say(impl.GridLevels([]float32{7}, 5, 1, 1)), "41880000,true "},
		{"LevelOf of one row of 0", say(impl.LevelOf([]float32{minusZero}, 0, 0, 40)), "00000000 true "},
		{"LevelOf beside -1, one round", say(impl.LevelOf([]float32{2, 2}, -1, 1, 1)), "40800000 true "},
		{"StateOf what is rounded to nothing", say(impl.StateOf([]float32{1e-30}, 0, 0.001, 1)), "00000000,true "},
	})
}

func TestMeansAndOverlapsThatDoNotExist(t *testing.T) {
	one := repeatNumber(1, 48)
	wantFailing(t, []failing{
		{"MeanPlace of one number", fails(impl.MeanPlace([]float32{1}, 0, 3))},
		{"MeanPlace of zeros", fails(impl.MeanPlace([]float32{0, minusZero}, 0, 3))},
		{"MeanPlace of squares that vanish", fails(impl.MeanPlace([]float32{1e-30, 1e-30}, 0, 3))},
		{"MeanPlace of squares that are not finite", fails(impl.MeanPlace([]float32{1e20, 1}, 0, 3))},
		{"MeanPlace of no width", fails(impl.MeanPlace([]float32{1, 1}, 3, 3))},
		{"MeanPlace downwards", fails(impl.MeanPlace([]float32{1, 1}, 3, 0))},
		{"MeanPlace of too great a width", fails(impl.MeanPlace([]float32{1, 1}, -greatest, greatest))},
		{"OverlapOf of lists of other lengths", fails(impl.OverlapOf([]float32{1, 2}, []float32{1}))},
		{"OverlapOf of lists of other lengths, turned round", fails(impl.OverlapOf([]float32{1}, []float32{1, 2}))},
		{"OverlapOf of one empty list", fails(impl.OverlapOf([]float32{1}, nil))},
		{"OverlapOf that is not finite", fails(impl.OverlapOf([]float32{1e20, 1}, []float32{1e20, 1}))},
	})
	wantTold(t, []told{
		{"MeanPlace of 48 numbers", say(impl.MeanPlace(one, 0, 49)), say(float32(24.5), true)},
		{"OverlapOf of 48 numbers", say(impl.OverlapOf(one, one)), say(float32(48), true)},
	})
}
