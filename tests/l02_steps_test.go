package tests

import (
	"math"
	"slices"
	"testing"

	"loop.example/g01403/impl"
)

var (
	infinity   = float32(math.Inf(1))
	notANumber = float32(math.NaN())
	greatest   = float32(math.MaxFloat32)
	least      = float32(math.SmallestNonzeroFloat32)
	minusZero  = float32(math.Copysign(0, -1))
)

// notFinite are the numbers that chapter 2 refuses.
func notFinite() []float32 { return []float32{infinity, -infinity, notANumber, num(otherNotANumber)} }

func evenSteps(edges int) impl.Steps {
	s := impl.Steps{Heights: []float32{0}}
	for i := range edges {
		s.Edges = append(s.Edges, float32(i))
		s.Heights = append(s.Heights, float32(i%2*3))
	}
	return s
}

func invalidSteps() []impl.Steps {
	list := []impl.Steps{
		{},
		{Edges: []float32{1}},
		{Edges: []float32{1}, Heights: []float32{2}},
		{Edges: []float32{1}, Heights: []float32{2, 3, 4}},
		{Heights: []float32{2, 3}},
		{Edges: []float32{1, 1}, Heights: []float32{2, 3, 4}},
		{Edges: []float32{minusZero, 0}, Heights: []float32{2, 3, 4}},
		{Edges: []float32{2, 1}, Heights: []float32{2, 3, 4}},
		{Edges: []float32{1, 3, 2}, Heights: []float32{2, 3, 4, 5}},
		evenSteps(12),
		evenSteps(40),
	}
	for _, x := range notFinite() {
		list = append(list,
			impl.Steps{Heights: []float32{x}},
			impl.Steps{Edges: []float32{x}, Heights: []float32{0, 2}},
			impl.Steps{Edges: []float32{0, x}, Heights: []float32{0, 2, 0}},
			impl.Steps{Edges: []float32{x, 0}, Heights: []float32{0, 2, 0}},
			impl.Steps{Edges: []float32{0, 1}, Heights: []float32{x, 2, 0}},
			impl.Steps{Edges: []float32{0, 1}, Heights: []float32{0, 2, x}})
	}
	return list
}

func TestValidSteps(t *testing.T) {
	valid := []impl.Steps{
		free, wall, stair, rough, cell, comb, evenSteps(11),
		{Edges: []float32{}, Heights: []float32{-5}},
		{Edges: []float32{-least, 0, least}, Heights: []float32{0, 0, 0, 0}},
		{Edges: []float32{-greatest, greatest}, Heights: []float32{greatest, -greatest, minusZero}},
	}
	for _, s := range valid {
		wantBool(t, "ValidSteps of "+say(s), impl.ValidSteps(s), true)
	}
	for _, s := range invalidSteps() {
		wantBool(t, "ValidSteps of "+say(s), impl.ValidSteps(s), false)
	}
}

func TestSameSteps(t *testing.T) {
	odd := impl.Steps{Edges: []float32{notANumber, -infinity}, Heights: []float32{minusZero}}
	cases := []struct {
		what string
		a, b impl.Steps
		want bool
	}{
		{"copies", rough, impl.Steps{Edges: slices.Clone(rough.Edges), Heights: slices.Clone(rough.Heights)}, true},
		{"nothing", impl.Steps{}, impl.Steps{Edges: []float32{}, Heights: []float32{}}, true},
		{"not-a-numbers", odd, impl.Steps{Edges: []float32{num(otherNotANumber), -infinity}, Heights: []float32{minusZero}}, true},
		{"zeros of two signs as heights", odd, impl.Steps{Edges: odd.Edges, Heights: []float32{0}}, false},
		{"zeros of two signs as edges", impl.Steps{Edges: []float32{0}}, impl.Steps{Edges: []float32{minusZero}}, false},
		{"another last edge", wall, impl.Steps{Edges: []float32{0, 2}, Heights: wall.Heights}, false},
		{"another first edge", wall, impl.Steps{Edges: []float32{-1, 1}, Heights: wall.Heights}, false},
		{"another first height", wall, impl.Steps{Edges: wall.Edges, Heights: []float32{1, 2, 0}}, false},
		{"another last height", wall, impl.Steps{Edges: wall.Edges, Heights: []float32{0, 2, 1}}, false},
		{"a zero more as an edge", wall, impl.Steps{Edges: []float32{0, 1, 0}, Heights: wall.Heights}, false},
		{"a zero more as a height", wall, impl.Steps{Edges: wall.Edges, Heights: []float32{0, 2, 0, 0}}, false},
		{"a number on the other side", impl.Steps{Edges: []float32{1, 2}, Heights: []float32{3}}, impl.Steps{Edges: []float32{1}, Heights: []float32{2, 3}}, false},
		{"many edges and no heights", impl.Steps{Edges: repeatNumber(1, 40)}, impl.Steps{Edges: append(repeatNumber(1, 39), 2)}, false},
	}
	for _, c := range cases {
		wantBool(t, c.what, impl.SameSteps(c.a, c.b), c.want)
		wantBool(t, c.what+", turned round", impl.SameSteps(c.b, c.a), c.want)
	}
}

func TestHeightAt(t *testing.T) {
	cases := []struct {
		s    impl.Steps
		x    float32
		want float32
	}{
		{free, -greatest, 0}, {free, greatest, 0},
		{wall, 0, 2}, {wall, minusZero, 2}, {wall, -least, 0}, {wall, 0.5, 2}, {wall, num(oneBits - 1), 2}, {wall, 1, 0}, {wall, 7, 0},
		{rough, -2, 0.5}, {rough, -1.5, 4}, {rough, 0, 4}, {rough, 0.25, -1}, {rough, 1, 2.25}, {rough, 3.7, 2.25}, {rough, 3.75, 1}, {rough, greatest, 1},
		{evenSteps(11), 9, 3}, {evenSteps(11), 10, 0},
	}
	for _, c := range cases {
		height, ok := impl.HeightAt(c.s, c.x)
		wantSum(t, "HeightAt of "+say(c.s, c.x), height, ok, math.Float32bits(c.want))
	}
	height, ok := impl.HeightAt(impl.Steps{Heights: []float32{minusZero}}, 3)
	wantSum(t, "HeightAt of -0", height, ok, minusZeroBits)
}

// TestInvalidStepsAreRefused gives what is not valid to each function of steps.
func TestInvalidStepsAreRefused(t *testing.T) {
	for _, s := range invalidSteps() {
		what := " of " + say(s)
		wantFailing(t, []failing{
			{"HeightAt" + what, fails(impl.HeightAt(s, 0.5))},
			{"WaveNumbers" + what, fails(impl.WaveNumbers(s, 9))},
			{"WaveAmounts" + what, fails(impl.WaveAmounts(s, 9))},
			{"StepShares" + what, fails(impl.StepShares(s, 9))},
			{"TurnSteps" + what, fails(impl.TurnSteps(s))},
			{"JoinSteps before" + what, fails(impl.JoinSteps(wall, s, 1))},
			{"JoinSteps behind" + what, fails(impl.JoinSteps(s, wall, 1))},
			{"RepeatSteps once" + what, fails(impl.RepeatSteps(s, 1))},
			{"RepeatSteps" + what, fails(impl.RepeatSteps(s, 2))},
			{"BestThrough" + what, fails(impl.BestThrough(s, 7, 9, 2))},
			{"CellTurns" + what, fails(impl.CellTurns(s, 9))},
			{"IsBand" + what, fails(impl.IsBand(s, 9))},
			{"BandEdges" + what, fails(impl.BandEdges(s, 7, 9, 2, 2))},
			{"GridRows" + what, fails(impl.GridRows(s, 0, 1, 2))},
			{"SharesShared" + what, fails(impl.SharesShared(s, []float32{9}, 2))},
		})
	}
}

// TestNumbersThatAreNotFiniteAreRefused gives them to each function of numbers of chapter 2.
func TestNumbersThatAreNotFiniteAreRefused(t *testing.T) {
	for _, x := range notFinite() {
		what := " of " + say(x)
		wantFailing(t, []failing{
			{"HeightAt" + what, fails(impl.HeightAt(wall, x))},
			{"WaveNumbers" + what, fails(impl.WaveNumbers(wall, x))},
			{"WaveAmounts" + what, fails(impl.WaveAmounts(free, x))},
			{"StepShares" + what, fails(impl.StepShares(free, x))},
			{"JoinSteps" + what, fails(impl.JoinSteps(wall, wall, x))},
			{"BestThrough from" + what, fails(impl.BestThrough(free, x, 9, 2))},
			{"BestThrough to" + what, fails(impl.BestThrough(free, 1, x, 2))},
			{"CellTurns" + what, fails(impl.CellTurns(cell, x))},
			{"IsBand" + what, fails(impl.IsBand(cell, x))},
			{"BandEdges from" + what, fails(impl.BandEdges(cell, x, 9, 2, 2))},
			{"BandEdges to" + what, fails(impl.BandEdges(cell, 1, x, 2, 2))},
			{"BoxLevels" + what, fails(impl.BoxLevels(x, 1))},
			{"SwingLevels" + what, fails(impl.SwingLevels(x, 1))},
			{"BendLevels with a rate" + what, fails(impl.BendLevels(x, 1))},
			{"BendLevels with a bend" + what, fails(impl.BendLevels(1, x))},
			{"WellCount of a width" + what, fails(impl.WellCount(x, 1))},
			{"WellCount of a depth" + what, fails(impl.WellCount(1, x))},
			{"GridRows from" + what, fails(impl.GridRows(free, x, 1, 2))},
			{"GridRows to" + what, fails(impl.GridRows(free, 0, x, 2))},
			{"CountBelow of rows" + what, fails(impl.CountBelow([]float32{2, x}, -1, 2))},
			{"CountBelow beside" + what, fails(impl.CountBelow([]float32{2, 2}, x, 2))},
			{"CountBelow below" + what, fails(impl.CountBelow([]float32{2, 2}, -1, x))},
			{"LevelOf of rows" + what, fails(impl.LevelOf([]float32{x, 2}, -1, 0, 2))},
			{"LevelOf beside" + what, fails(impl.LevelOf([]float32{2, 2}, x, 0, 2))},
			{"GridLevels of rows" + what, fails(impl.GridLevels([]float32{x, 2}, -1, 2, 2))},
			{"GridLevels beside" + what, fails(impl.GridLevels([]float32{2, 2}, x, 2, 2))},
			{"StateOf of rows" + what, fails(impl.StateOf([]float32{2, x}, -1, 1, 2))},
			{"StateOf beside" + what, fails(impl.StateOf([]float32{2, 2}, x, 1, 2))},
			{"StateOf at" + what, fails(impl.StateOf([]float32{2, 2}, -1, x, 2))},
			{"MeanPlace" + what, fails(impl.MeanPlace([]float32{1, x}, 0, 3))},
			{"MeanPlace from" + what, fails(impl.MeanPlace([]float32{1, 1}, x, 3))},
			{"MeanPlace to" + what, fails(impl.MeanPlace([]float32{1, 1}, 0, x))},
			{"OverlapOf at first" + what, fails(impl.OverlapOf([]float32{x, 0}, []float32{0, 1}))},
			{"OverlapOf at last" + what, fails(impl.OverlapOf([]float32{1, 0}, []float32{0, x}))},
			{"SharesShared" + what, fails(impl.SharesShared(free, []float32{1, x}, 2))},
		})
	}
}

func TestStepsThatCannotBeJoined(t *testing.T) {
	far := impl.Steps{Edges: []float32{-greatest, greatest}, Heights: []float32{0, 2, 0}}
	signed := impl.Steps{Edges: []float32{0}, Heights: []float32{minusZero, 0}}
	close := impl.Steps{Edges: []float32{0, 0.25}, Heights: []float32{0, 2, 0}}
	six := evenSteps(6)
	wantFailing(t, []failing{
		{"no gap", fails(impl.JoinSteps(wall, wall, 0))},
		{"a gap of -0", fails(impl.JoinSteps(wall, wall, minusZero))},
		{"a gap less than 0", fails(impl.JoinSteps(wall, wall, -1))},
		{"a gap that is rounded away", fails(impl.JoinSteps(wall, wall, 1e-20))},
		{"no edges in front", fails(impl.JoinSteps(free, wall, 1))},
		{"no edges behind", fails(impl.JoinSteps(wall, free, 1))},
		{"other heights", fails(impl.JoinSteps(stair, wall, 1))},
		{"zeros of two signs", fails(impl.JoinSteps(wall, signed, 1))},
		{"12 edges", fails(impl.JoinSteps(six, six, 1))},
		{"edges that are not finite", fails(impl.JoinSteps(far, far, 1))},
		{"a shift that rounds edges together", fails(impl.JoinSteps(impl.Steps{Edges: []float32{3e7}, Heights: []float32{0, 0}}, close, 8))},
		{"no times", fails(impl.RepeatSteps(wall, 0))},
		{"times less than 0", fails(impl.RepeatSteps(wall, -1))},
		{"six times", fails(impl.RepeatSteps(wall, 6))},
		{"the greatest times", fails(impl.RepeatSteps(wall, math.MaxInt64))},
		{"the least times", fails(impl.RepeatSteps(wall, math.MinInt64))},
		{"13 edges", fails(impl.RepeatSteps(cell, 4))},
		{"ends of other heights", fails(impl.RepeatSteps(stair, 1))},
		{"ends of zeros of two signs", fails(impl.RepeatSteps(signed, 1))},
		{"no edges twice", fails(impl.RepeatSteps(free, 2))},
		{"one edge twice", fails(impl.RepeatSteps(impl.Steps{Edges: []float32{1}, Heights: []float32{2, 2}}, 2))},
	})
}

func TestJoinedStepsAtTheirLimits(t *testing.T) {
	one := impl.Steps{Edges: []float32{1}, Heights: []float32{2, 2}}
	tenEdges := evenSteps(10)
	wantTold(t, []told{
		{"11 edges", say(impl.JoinSteps(tenEdges, impl.Steps{Edges: []float32{-7}, Heights: []float32{3, 1}}, 1)), say(impl.Steps{
			Edges: []float32{0, 1, 2, 3, 4, 5, 6, 7, 8, 9, 10}, Heights: []float32{0, 0, 3, 0, 3, 0, 3, 0, 3, 0, 3, 1}}, true)},
		{"one edge once", say(impl.RepeatSteps(one, 1)), say(one, true)},
		{"zeros turned round", say(impl.TurnSteps(impl.Steps{Edges: []float32{minusZero}, Heights: []float32{minusZero, 1}})),
			say(impl.Steps{Edges: []float32{0}, Heights: []float32{1, minusZero}}, true)},
		{"+0 turned round", say(impl.TurnSteps(impl.Steps{Edges: []float32{0}, Heights: []float32{0, 1}})),
			say(impl.Steps{Edges: []float32{0}, Heights: []float32{1, 0}}, true)},
		{"heights -0 joined", say(impl.JoinSteps(impl.Steps{Edges: []float32{1}, Heights: []float32{0, minusZero}}, impl.Steps{Edges: []float32{4}, Heights: []float32{minusZero, 5}}, 2)),
			say(impl.Steps{Edges: []float32{1, 3}, Heights: []float32{0, minusZero, 5}}, true)},
	})
}
