package tests

import (
	"testing"

	"loop.example/g01403/impl"
)

const wellSteps = 3000

// bitsOfAll returns the bits of results that succeed, without their ends, and -1 for others.
func bitsOfAll(results ...any) []int64 {
	last := len(results) - 1
	if results[last] != true {
		return []int64{-1}
	}
	var list []int64
	for _, r := range results[:last] {
		switch x := r.(type) {
		case bool:
			list = append(list, map[bool]int64{true: 1}[x])
		case int64:
			list = append(list, x)
		case string:
			for i := range len(x) {
				list = append(list, int64(x[i]))
			}
		case []int64:
			list = append(list, x...)
		case float32:
			list = append(list, int64(bitsOf(x)))
		case complex64:
			list = append(list, bitsOfBoth(x)...)
		case []float32:
			for _, y := range x {
				list = append(list, int64(bitsOf(y)))
			}
		case []complex64:
			for _, y := range x {
				list = append(list, bitsOfBoth(y)...)
			}
		case impl.Line:
			list = append(list, bitsOfLines(x)...)
		case []impl.Line:
			list = append(list, bitsOfLines(x...)...)
		default:
			panic(r)
		}
	}
	return list
}

func bitsOfLines(lines ...impl.Line) []int64 {
	var list []int64
	for _, l := range lines {
		list = append(list, int64(bitsOf(l.Place)), int64(bitsOf(l.Height)), int64(bitsOf(l.Width)), l.Kind)
	}
	return list
}

func waveBits(r [4]uint32) []int64 {
	s, energy := someSteps(r)
	return append(bitsOfAll(impl.WaveAmounts(s, energy)), bitsOfAll(impl.StepShares(s, energy))...)
}

func bandBits(r [4]uint32) []int64 {
	s, energy := someSteps(r)
	list := append(bitsOfAll(impl.CellTurns(s, energy)), bitsOfAll(impl.IsBand(s, energy))...)
	return append(list, bitsOfAll(impl.BandEdges(s, energy, energy+4, 9, 6))...)
}

func rowBits(r [4]uint32) []int64 {
	s, energy := someSteps(r)
	n := 2 + int64(r[0]%20)
	rows, beside, ok := impl.GridRows(s, -3, 3, n)
	list := bitsOfAll(rows, beside, ok)
	if !ok {
		return list
	}
	list = append(list, bitsOfAll(impl.CountBelow(rows, beside, energy*10))...)
	level, ok := impl.LevelOf(rows, beside, int64(r[1])%n, 20)
	list = append(list, bitsOfAll(level, ok)...)
	state, ok := impl.StateOf(rows, beside, level, 2)
	list = append(list, bitsOfAll(state, ok)...)
	list = append(list, bitsOfAll(impl.MeanPlace(state, -3, 3))...)
	return append(list, bitsOfAll(impl.OverlapOf(state, rows))...)
}

func closedBits(r [4]uint32) []int64 {
	count := 1 + int64(r[3]%5)
	list := append(bitsOfAll(impl.BoxLevels(mildPositive(r[0]), count)), bitsOfAll(impl.SwingLevels(mildPositive(r[1]), count))...)
	list = append(list, bitsOfAll(impl.BendLevels(mildPositive(r[1]), mildPositive(r[2])))...)
	return append(list, bitsOfAll(impl.WellCount(mildPositive(r[2]), mildPositive(r[3])))...)
}

// TestWalksOfWells holds folded results against those of another program, as TestWalks does.
func TestWalksOfWells(t *testing.T) {
	wantWalks(t, wellSteps, []walkTo{
		{"WaveAmounts and StepShares", 21, waveBits, 0xadeb5ba82a30530f},
		{"CellTurns, IsBand and BandEdges", 22, bandBits, 0x2f8d270faf40cbbe},
		{"GridRows and what becomes of them", 23, rowBits, 0xe80af60ab1c9bb36},
		{"BoxLevels, SwingLevels, BendLevels and WellCount", 24, closedBits, 0xe968fd94c48b6529},
	})
}
