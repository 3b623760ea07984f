package tests

import (
	"fmt"
	"math"
	"reflect"
	"testing"

	"loop.example/g01403/impl"
)

// sayWells says what every function of chapter 2 makes of its arguments.
func sayWells(s, u impl.Steps, rows, others []float32, x, y float32, n int64) string {
	return say(impl.ValidSteps(s), impl.SameSteps(s, u)) +
		say(impl.HeightAt(s, x)) + say(impl.WaveNumbers(s, x)) + say(impl.WaveAmounts(s, x)) + say(impl.StepShares(s, x)) +
		say(impl.TurnSteps(s)) + say(impl.JoinSteps(s, u, x)) + say(impl.RepeatSteps(s, n)) + say(impl.BestThrough(s, x, y, n)) +
		say(impl.CellTurns(s, x)) + say(impl.IsBand(s, x)) + say(impl.BandEdges(s, x, y, n, n)) +
		say(impl.BoxLevels(x, n)) + say(impl.SwingLevels(x, n)) + say(impl.BendLevels(x, y)) + say(impl.WellCount(x, y)) +
		say(impl.GridRows(s, x, y, n)) + say(impl.CountBelow(rows, x, y)) + say(impl.LevelOf(rows, x, n, n)) + say(impl.GridLevels(rows, x, n, n)) +
		say(impl.StateOf(rows, x, y, n)) + say(impl.MeanPlace(rows, x, y)) + say(impl.OverlapOf(rows, others)) + say(impl.SharesShared(s, rows, n))
}

// TestWellsReturn calls every function of chapter 2 with all kinds of numbers, twice.
func TestWellsReturn(t *testing.T) {
	integers := []int64{math.MinInt64, -1, 0, 1, 2, 5, 8, 48, 64, 65, math.MaxInt64}
	all := append(invalidSteps(), free, wall, stair, rough, cell, comb, evenSteps(11))
	for i, a := range strangeBits() {
		for j, b := range strangeBits() {
			x, y, n := num(a), num(b), integers[(i*7+j)%len(integers)]
			s, u := all[(i*31+j)%len(all)], all[(i+j*5)%len(all)]
			odd := impl.Steps{Edges: []float32{min(x, y), max(x, y)}, Heights: []float32{y, x, y}}
			rows := []float32{x, y, x}
			twice(t, fmt.Sprintf("wells of %08x %08x %d", a, b, n), func() string {
				return sayWells(s, u, rows, []float32{y, y, x}, x, y, n) + sayWells(odd, s, []float32{x}, rows, y, x, n)
			})
		}
	}
}

// stepsWithRoom returns a copy of steps, and all of its memory.
func stepsWithRoom(s impl.Steps) (impl.Steps, [][]float32) {
	edges, allEdges := withRoom(s.Edges, 77)
	heights, allHeights := withRoom(s.Heights, 78)
	return impl.Steps{Edges: edges, Heights: heights}, [][]float32{allEdges, allHeights}
}

// TestStepsAndRowsAreNotModified looks at the memory of lists, and at what comes behind their ends.
func TestStepsAndRowsAreNotModified(t *testing.T) {
	for _, list := range []impl.Steps{free, wall, stair, rough, cell, comb, {}, evenSteps(12)} {
		s, memory := stepsWithRoom(list)
		u, more := stepsWithRoom(impl.Steps{Edges: list.Edges, Heights: list.Heights})
		rows, allRows := withRoom([]float32{2, 3.5, 2, 9}, 79)
		others, allOthers := withRoom([]float32{-1, 0.5, 7, 1}, 80)
		memory = append(append(memory, more...), allRows, allOthers)
		var before [][]float32
		for _, m := range memory {
			before = append(before, append([]float32{}, m...))
		}
		first := sayWells(s, u, rows, others, 1.25, 9, 2)
		if !reflect.DeepEqual(before, memory) {
			t.Errorf("%s or rows are modified: %v, and then %v", say(list), before, memory)
		}
		if again := sayWells(s, u, rows, others, 1.25, 9, 2); again != first {
			t.Errorf("%s: %s, and then %s", say(list), first, again)
		}
	}
}

// TestWellsAreNew writes over all that functions return, and looks whether an argument or another result changes.
func TestWellsAreNew(t *testing.T) {
	numbers := func(list []float32, _ bool) { overwrite(list) }
	steps := func(s impl.Steps, _ bool) {
		edges := append([]float32{}, s.Edges...)
		overwrite(s.Heights)
		if !sameNumbers(edges, s.Edges) {
			t.Error("edges share memory with heights")
		}
		overwrite(s.Edges)
	}
	s, _ := stepsWithRoom(wall)
	u, _ := stepsWithRoom(cell)
	rows := []float32{2, 3.5, 2, 9}
	first := sayWells(s, u, rows, rows, 1.25, 9, 2)
	steps(impl.TurnSteps(s))
	steps(impl.JoinSteps(s, u, 1))
	steps(impl.RepeatSteps(s, 1))
	steps(impl.RepeatSteps(s, 3))
	numbers(impl.CellTurns(s, 1.25))
	numbers(impl.BandEdges(u, 0.25, 14, 24, 5))
	numbers(impl.BoxLevels(1, 5))
	numbers(impl.SwingLevels(1, 5))
	numbers(impl.BendLevels(9, 1))
	numbers(impl.GridLevels(rows, 0.5, 4, 5))
	numbers(impl.StateOf(rows, 0.5, 2, 1))
	numbers(impl.SharesShared(s, rows[1:], 2))
	grid, _, _ := impl.GridRows(s, 0, 3, 5)
	overwrite(grid)
	waves, _ := impl.WaveNumbers(s, 1)
	clear(waves[:cap(waves)])
	if again := sayWells(s, u, rows, rows, 1.25, 9, 2); again != first {
		t.Errorf("results share memory: %s, and then %s", first, again)
	}
}

// overwrite writes over a list and the memory behind its end.
func overwrite[T float32 | complex64](list []T) {
	all := list[:cap(list)]
	for i := range all {
		all[i] = -99
	}
}

func TestNilAndEmptyStepsAreOneValue(t *testing.T) {
	none := impl.Steps{Edges: []float32{}, Heights: []float32{0}}
	for _, n := range []int64{1, 2} {
		first, second := sayWells(free, none, nil, nil, 1.25, 9, n), sayWells(none, free, []float32{}, []float32{}, 1.25, 9, n)
		if first != second {
			t.Errorf("nil gives %s, and what is empty gives %s", first, second)
		}
	}
}
