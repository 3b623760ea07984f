package tests

import (
	"math"
	"testing"

	"loop.example/g01403/impl"
)

func near(t *testing.T, what string, got, want, within float64) {
	t.Helper()
	if !(math.Abs(got-want) <= within) {
		t.Errorf("%s: got %v, want %v, within %v", what, got, want, within)
	}
}

// someSteps returns steps with walls and wells that are neither very thick nor very deep, and an energy above both ends.
func someSteps(r [4]uint32) (impl.Steps, float32) {
	s := impl.Steps{Heights: []float32{float32(r[0]%16) / 8}}
	place := float32(r[0]>>4%32)/4 - 4
	for i := range r[1] >> 8 % 7 {
		bits := r[2] >> (4 * i)
		s.Edges = append(s.Edges, place)
		s.Heights = append(s.Heights, float32(bits%16)/2-2)
		place += float32(1+r[3]>>(4*i)%16) / 16
	}
	s.Heights[len(s.Heights)-1] = float32(r[1]%16) / 8
	return s, 2.0625 + float32(r[1]>>4%16)/4 + float32(r[3]>>16)/(1<<20)
}

// TestWhatGoesThroughAndComesBackMakesOne is the first part of promise 3.
func TestWhatGoesThroughAndComesBackMakesOne(t *testing.T) {
	seen := 0
	walk(31, func(r [4]uint32) []int64 {
		s, energy := someSteps(r)
		through, back, ok := impl.StepShares(s, energy)
		if !ok {
			return nil
		}
		seen++
		if sum := float64(through) + float64(back); !(math.Abs(sum-1) < 1e-4) || through < 0 || back < 0 {
			t.Errorf("%s at %v: %v goes through, %v comes back", say(s), energy, through, back)
		}
		turned, _ := impl.TurnSteps(s)
		if other, _, ok := impl.StepShares(turned, energy); !ok || !(math.Abs(float64(through-other)) < 1e-4) {
			t.Errorf("%s at %v: %v goes through, but turned round %v", say(s), energy, through, other)
		}
		return nil
	})
	if seen < walkSteps*9/10 {
		t.Errorf("only %d of %d steps had shares", seen, walkSteps)
	}
}

// TestCellsKeepTheirSize holds the determinant of cells against 1.
func TestCellsKeepTheirSize(t *testing.T) {
	seen := 0
	walk(32, func(r [4]uint32) []int64 {
		s, energy := someSteps(r)
		turns, ok := impl.CellTurns(s, energy)
		if !ok {
			return nil
		}
		seen++
		m, n, o, p := float64(turns[0]), float64(turns[1]), float64(turns[2]), float64(turns[3])
		if size := m*p - n*o; !(math.Abs(size-1) < 1e-5*(1+math.Abs(m*p)+math.Abs(n*o))) {
			t.Errorf("%s at %v: the size of %v is %v", say(s), energy, turns, size)
		}
		return nil
	})
	if seen < walkSteps/2 {
		t.Errorf("only %d of %d steps had cells", seen, walkSteps)
	}
}

// TestLevelsAreThoseOfTheirRows is the second part of promise 3: as many levels as told are below what lies around each one,
// and states are turned to themselves by the rows, but for their level.
func TestLevelsAreThoseOfTheirRows(t *testing.T) {
	for _, s := range []impl.Steps{free, wall, stair, rough, cell, comb} {
		rows, beside, ok := impl.GridRows(s, -2, 5, 30)
		wantBool(t, "GridRows", ok, true)
		levels, ok := impl.GridLevels(rows, beside, 30, 40)
		wantBool(t, "GridLevels", ok, true)
		for k, level := range levels {
			below, _ := impl.CountBelow(rows, beside, level-1e-3)
			above, _ := impl.CountBelow(rows, beside, level+1e-3)
			if below > int64(k) || above <= int64(k) || k > 0 && level < levels[k-1] {
				t.Errorf("%s, level %d of %v: %d are below it, and %d a little above it", say(s), k, levels, below, above)
			}
		}
		for _, k := range []int{0, 1, 5} {
			wantStateOf(t, rows, beside, levels[k])
		}
	}
}

func wantStateOf(t *testing.T, rows []float32, beside, level float32) {
	t.Helper()
	state, ok := impl.StateOf(rows, beside, level, 8)
	wantBool(t, "StateOf", ok, true)
	length, ok := impl.OverlapOf(state, state)
	wantBool(t, "OverlapOf", ok, true)
	near(t, "the length of a state", float64(length), 1, 1e-5)
	for i := range state {
		sum := float64(rows[i]) * float64(state[i])
		if i > 0 {
			sum += float64(beside) * float64(state[i-1])
		}
		if i+1 < len(state) {
			sum += float64(beside) * float64(state[i+1])
		}
		near(t, "a row of a state", sum, float64(level)*float64(state[i]), 5e-3)
	}
}

// TestBoxesAndWellsOnGrids holds levels of closed forms against those of rows.
func TestBoxesAndWellsOnGrids(t *testing.T) {
	rows, beside, _ := impl.GridRows(free, 0, 2.5, 48)
	levels, _ := impl.GridLevels(rows, beside, 4, 40)
	box, _ := impl.BoxLevels(2.5, 4)
	for i := range levels {
		near(t, "a level of a box", float64(levels[i]), float64(box[i]), float64(box[i])*0.007)
	}
	first, _ := impl.StateOf(rows, beside, levels[0], 4)
	second, _ := impl.StateOf(rows, beside, levels[1], 4)
	place, _ := impl.MeanPlace(first, 0, 2.5)
	near(t, "the mean place in a box", float64(place), 1.25, 1e-3)
	overlap, ok := impl.OverlapOf(first, second)
	near(t, "the overlap of two states", float64(overlap), 0, 1e-3)
	wantBool(t, "OverlapOf", ok, true)
	for _, depth := range []float32{1, 4, 6, 20} {
		well := impl.Steps{Edges: []float32{-1, 1}, Heights: []float32{0, -depth, 0}}
		rows, beside, _ := impl.GridRows(well, -4, 4, 48)
		below, _ := impl.CountBelow(rows, beside, 0)
		count, ok := impl.WellCount(2, depth)
		if !ok || below != count {
			t.Errorf("a well of the depth %v: %d levels on a grid, %d told", depth, below, count)
		}
	}
}
