package tests

import (
	"testing"

	"loop.example/g01403/impl"
)

// The wanted texts are those of another program, in another language, which follows the document's steps.

var (
	free  = impl.Steps{Heights: []float32{0}}
	wall  = impl.Steps{Edges: []float32{0, 1}, Heights: []float32{0, 2, 0}}
	stair = impl.Steps{Edges: []float32{0}, Heights: []float32{0, 3}}
	rough = impl.Steps{Edges: []float32{-1.5, 0.25, 1, 3.75}, Heights: []float32{0.5, 4, -1, 2.25, 1}}
	cell  = impl.Steps{Edges: []float32{0, 1, 1.5}, Heights: []float32{0, 0, 5, 0}}
	comb  = impl.Steps{Edges: []float32{0, 1, 1.5, 2.5, 3}, Heights: []float32{0, 0, 5, 0, 5, 0}}
)

func TestStepsAreToldToTheLastBit(t *testing.T) {
	wantTold(t, []told{
		{"TurnSteps of wall", say(impl.TurnSteps(wall)), "bf800000,00000000,|00000000,40000000,00000000,true "},
		{"TurnSteps of rough", say(impl.TurnSteps(rough)), "c0700000,bf800000,be800000,3fc00000,|3f800000,40100000,bf800000,40800000,3f000000,true "},
		{"TurnSteps of free", say(impl.TurnSteps(free)), "|00000000,true "},
		{"JoinSteps of wall, wall, 0.5", say(impl.JoinSteps(wall, wall, 0.5)), "00000000,3f800000,3fc00000,40200000,|00000000,40000000,00000000,40000000,00000000,true "},
		{"JoinSteps of wall, cell, 0.3", say(impl.JoinSteps(wall, cell, 0.3)), "00000000,3f800000,3fa66666,40133333,40333333,|00000000,40000000,00000000,00000000,40a00000,00000000,true "},
		{"JoinSteps of comb, wall, 2", say(impl.JoinSteps(comb, wall, 2)), "00000000,3f800000,3fc00000,40200000,40400000,40a00000,40c00000,|00000000,00000000,40a00000,00000000,40a00000,00000000,40000000,00000000,true "},
		{"RepeatSteps of wall, 1", say(impl.RepeatSteps(wall, 1)), "00000000,3f800000,|00000000,40000000,00000000,true "},
		{"RepeatSteps of wall, 2", say(impl.RepeatSteps(wall, 2)), "00000000,3f800000,40000000,40400000,|00000000,40000000,00000000,40000000,00000000,true "},
		{"RepeatSteps of wall, 5", say(impl.RepeatSteps(wall, 5)), "00000000,3f800000,40000000,40400000,40800000,40a00000,40c00000,40e00000,41000000,41100000,|00000000,40000000,00000000,40000000,00000000,40000000,00000000,40000000,00000000,40000000,00000000,true "},
		{"RepeatSteps of cell, 3", say(impl.RepeatSteps(cell, 3)), "00000000,3f800000,3fc00000,40400000,40800000,40900000,40c00000,40e00000,40f00000,|00000000,00000000,40a00000,00000000,00000000,40a00000,00000000,00000000,40a00000,00000000,true "},
		{"RepeatSteps of free, 1", say(impl.RepeatSteps(free, 1)), "|00000000,true "},
	})
}

func TestWavesAreToldToTheLastBit(t *testing.T) {
	wantTold(t, []told{
		{"WaveNumbers of free, 1", say(impl.WaveNumbers(free, 1)), "3f800000+00000000,true "},
		{"WaveNumbers of wall, 1", say(impl.WaveNumbers(wall, 1)), "3f800000+00000000,00000000+3f800000,3f800000+00000000,true "},
		{"WaveNumbers of wall, 4", say(impl.WaveNumbers(wall, 4)), "40000000+00000000,3fb504f3+00000000,40000000+00000000,true "},
		{"WaveNumbers of rough, 1.5", say(impl.WaveNumbers(rough, 1.5)), "3f800000+00000000,00000000+3fca62c2,3fca62c2+00000000,00000000+3f5db3d7,3f3504f3+00000000,true "},
		{"WaveNumbers of rough, -3", say(impl.WaveNumbers(rough, -3)), "00000000+3fef7751,00000000+402953fd,00000000+3fb504f3,00000000+4012a476,00000000+40000000,true "},
		{"WaveAmounts of free, 1", say(impl.WaveAmounts(free, 1)), "3f800000+00000000 00000000+00000000 true "},
		{"WaveAmounts of stair, 4", say(impl.WaveAmounts(stair, 4)), "3f400000+00000000 3e800000+00000000 true "},
		{"WaveAmounts of stair, 1", say(impl.WaveAmounts(stair, 1)), "3f000000+3f3504f3 3f000000+bf3504f3 true "},
		{"WaveAmounts of wall, 1", say(impl.WaveAmounts(wall, 1)), "3fc583aa+00000000 00000000+bf966cfe true "},
		{"WaveAmounts of wall, 4", say(impl.WaveAmounts(wall, 4)), "3e1fafb7+bf861a84 31800000+beb2ce04 true "},
		{"WaveAmounts of rough, 1.5", say(impl.WaveAmounts(rough, 1.5)), "4100480d+3fe3ffc8 bf9e0d89+c101378d true "},
		{"WaveAmounts of rough, 10", say(impl.WaveAmounts(rough, 10)), "be90dcec+bf7d95c5 bdd341b8+be8e5b17 true "},
		{"WaveAmounts of comb, 3.25", say(impl.WaveAmounts(comb, 3.25)), "bf003672+3f922159 bf397844+be2f4175 true "},
		{"StepShares of free, 1", say(impl.StepShares(free, 1)), "3f800000 00000000 true "},
		{"StepShares of stair, 4", say(impl.StepShares(stair, 4)), "3f638e39 3de38e39 true "},
		{"StepShares of wall, 1", say(impl.StepShares(wall, 1)), "3ed706e2 3f147c91 true "},
		{"StepShares of wall, 4", say(impl.StepShares(wall, 4)), "3f642c08 3dde9f8d true "},
		{"StepShares of rough, 1.5", say(impl.StepShares(rough, 1.5)), "3c2bbfab 3f7d5103 true "},
		{"StepShares of rough, 10", say(impl.StepShares(rough, 10)), "3f6ac923 3da9b6d8 true "},
		{"StepShares of comb, 3.25", say(impl.StepShares(comb, 3.25)), "3f24b796 3eb690d1 true "},
		{"BestThrough of free, 1, 3, 3", say(impl.BestThrough(free, 1, 3, 3)), "3f800000 3f800000 true "},
		{"BestThrough of wall, 0.6, 6, 12", say(impl.BestThrough(wall, 0.6, 6, 12)), "40c00000 3f77796b true "},
		{"BestThrough of rough, 1.1, 9, 64", say(impl.BestThrough(rough, 1.1, 9, 64)), "40dfcbfd 3f7e679c true "},
		{"BestThrough of comb, 0.3, 4.7, 33", say(impl.BestThrough(comb, 0.3, 4.7, 33)), "401fffff 3f7fda10 true "},
		{"BestThrough of wall, 1, 3, 2", say(impl.BestThrough(wall, 1, 3, 2)), "40400000 3f4f1d9c true "},
		{"SharesShared of wall, {1, 4, 0.5, 2.5, 7}, 3", say(impl.SharesShared(wall, []float32{1, 4, 0.5, 2.5, 7}, 3)), "3ed706e2,3f642c08,3e727c69,3f3f6264,3f7b8d24,true "},
		{"SharesShared of rough, {1.5, 10}, 8", say(impl.SharesShared(rough, []float32{1.5, 10}, 8)), "3c2bbfab,3f6ac923,true "},
		{"SharesShared of comb, {3.25}, 1", say(impl.SharesShared(comb, []float32{3.25}, 1)), "3f24b796,true "},
	})
}

func TestBandsAreToldToTheLastBit(t *testing.T) {
	wantTold(t, []told{
		{"CellTurns of wall, 1", say(impl.CellTurns(wall, 1)), "3fc583aa,3f966cfe,3f966cfe,3fc583aa,true "},
		{"CellTurns of wall, 4", say(impl.CellTurns(wall, 4)), "3e1fafb6,3f32ce04,bfb2ce03,3e1fafb6,true "},
		{"CellTurns of rough, 1.5", say(impl.CellTurns(rough, 1.5)), "41515b80,410e6f80,411db784,40d90cc0,true "},
		{"CellTurns of comb, 3.25", say(impl.CellTurns(comb, 3.25)), "3e650750,bf09d038,4017777a,bf9cd758,true "},
		{"CellTurns of cell, 2", say(impl.CellTurns(cell, 2)), "bf122833,3f885a30,bfd853a2,3fb36ea7,true "},
		{"IsBand of wall, 1", say(impl.IsBand(wall, 1)), "false true "},
		{"IsBand of wall, 4", say(impl.IsBand(wall, 4)), "true true "},
		{"IsBand of cell, 0.5", say(impl.IsBand(cell, 0.5)), "false true "},
		{"IsBand of cell, 2", say(impl.IsBand(cell, 2)), "true true "},
		{"IsBand of cell, 4", say(impl.IsBand(cell, 4)), "true true "},
		{"BandEdges of cell, 0.25, 14, 24, 12", say(impl.BandEdges(cell, 0.25, 14, 24, 12)), "3fb98c42,40950584,40e9926a,true "},
		{"BandEdges of cell, 0.25, 14, 24, 1", say(impl.BandEdges(cell, 0.25, 14, 24, 1)), "3fb90b21,408de9bd,40e40000,true "},
		{"BandEdges of comb, 0.5, 24, 64, 24", say(impl.BandEdges(comb, 0.5, 24, 64, 24)), "3fb98ee7,4095069e,40e992c5,4193d731,41a08313,true "},
		{"BandEdges of cell, 0.25, 14, 2, 24", say(impl.BandEdges(cell, 0.25, 14, 2, 24)), "40e992c4,true "},
	})
}

func TestLevelsAreToldToTheLastBit(t *testing.T) {
	wantTold(t, []told{
		{"BoxLevels of 2.5, 6", say(impl.BoxLevels(2.5, 6)), "3fca2128,40ca2128,4163654c,41ca2128,421de9e7,4263654c,true "},
		{"SwingLevels of 0.3, 7", say(impl.SwingLevels(0.3, 7)), "3e99999a,3f666667,3fc00000,40066667,402ccccd,40533334,4079999a,true "},
		{"BendLevels of 4, 1", say(impl.BendLevels(4, 1)), "3fe00000,40700000,true "},
		{"BendLevels of 4.5, 0.3", say(impl.BendLevels(4.5, 0.3)), "400b3333,40c26666,41160000,41413333,4162cccc,417acccc,4184999a,41870000,true "},
		{"BendLevels of 1, 3", say(impl.BendLevels(1, 3)), "be800000,true "},
		{"WellCount of 3.1415927, 1", say(impl.WellCount(3.1415927, 1)), "1 true "},
		{"WellCount of 3, 7", say(impl.WellCount(3, 7)), "3 true "},
		{"WellCount of 0.1, 0.1", say(impl.WellCount(0.1, 0.1)), "1 true "},
		{"WellCount of 10, 30", say(impl.WellCount(10, 30)), "18 true "},
	})
}

func TestRowsAreToldToTheLastBit(t *testing.T) {
	wantTold(t, []told{
		{"GridRows of wall, -1, 2, 5", say(impl.GridRows(wall, -1, 2, 5)), "41000000,41200000,41200000,41000000,41000000,c0800000 true "},
		{"GridRows of rough, -3, 5.5, 12", say(impl.GridRows(rough, -3, 5.5, 12)), "40a5b3d2,40a5b3d2,410ad9e9,410ad9e9,406b67a4,406b67a4,40ddb3d2,40ddb3d2,40ddb3d2,40ddb3d2,40b5b3d2,40b5b3d2,c015b3d2 true "},
		{"GridRows of wall, -1, 2, 2", say(impl.GridRows(wall, -1, 2, 2)), "40800000,40000000,bf800000 true "},
		{"CountBelow of {2, 2}, -1, 2", say(impl.CountBelow([]float32{2, 2}, -1, 2)), "1 true "},
		{"CountBelow of {2, 2}, -1, 0.5", say(impl.CountBelow([]float32{2, 2}, -1, 0.5)), "0 true "},
		{"CountBelow of {2, 2}, -1, 3.5", say(impl.CountBelow([]float32{2, 2}, -1, 3.5)), "2 true "},
		{"CountBelow of {1, 4, 2.5, 3}, 0.75, 2.75", say(impl.CountBelow([]float32{1, 4, 2.5, 3}, 0.75, 2.75)), "2 true "},
		{"CountBelow of {7}, 5, 7.5", say(impl.CountBelow([]float32{7}, 5, 7.5)), "1 true "},
		{"LevelOf of {2, 2}, -1, 0, 30", say(impl.LevelOf([]float32{2, 2}, -1, 0, 30)), "3f800001 true "},
		{"LevelOf of {1, 4, 2.5, 3}, 0.75, 2, 40", say(impl.LevelOf([]float32{1, 4, 2.5, 3}, 0.75, 2, 40)), "4057b2e2 true "},
		{"LevelOf of {1, 4, 2.5, 3}, 0.75, 3, 7", say(impl.LevelOf([]float32{1, 4, 2.5, 3}, 0.75, 3, 7)), "40908000 true "},
		{"LevelOf of {7}, 5, 0, 1", say(impl.LevelOf([]float32{7}, 5, 0, 1)), "41880000 true "},
		{"GridLevels of {2, 2}, -1, 2, 30", say(impl.GridLevels([]float32{2, 2}, -1, 2, 30)), "3f800001,40400001,true "},
		{"GridLevels of {1, 4, 2.5, 3}, 0.75, 4, 25", say(impl.GridLevels([]float32{1, 4, 2.5, 3}, 0.75, 4, 25)), "3f4cc475,3fe98c56,4057b2e2,40902aec,true "},
		{"GridLevels of {1, 4, 2.5, 3}, -0.75, 2, 1", say(impl.GridLevels([]float32{1, 4, 2.5, 3}, -0.75, 2, 1)), "40200000,40200000,true "},
		{"StateOf of {2, 2}, -1, 1, 3", say(impl.StateOf([]float32{2, 2}, -1, 1, 3)), "3f3504f3,3f3504f3,true "},
		{"StateOf of {1, 4, 2.5, 3}, 0.75, 2.3, 1", say(impl.StateOf([]float32{1, 4, 2.5, 3}, 0.75, 2.3, 1)), "bed1fe65,3ed048ce,3f1acc95,3f0c5e4f,true "},
		{"StateOf of {1, 4, 2.5, 3}, 0.75, 2.3, 8", say(impl.StateOf([]float32{1, 4, 2.5, 3}, 0.75, 2.3, 8)), "3e44f347,3e55391f,bf4da58c,3f061689,true "},
		{"StateOf of {7}, 5, 3, 1", say(impl.StateOf([]float32{7}, 5, 3, 1)), "3f800000,true "},
		{"MeanPlace of {1, 1}, 0, 3", say(impl.MeanPlace([]float32{1, 1}, 0, 3)), "3fc00000 true "},
		{"MeanPlace of {0.3, -0.9, 0.1, 0.25}, -2, 3.5", say(impl.MeanPlace([]float32{0.3, -0.9, 0.1, 0.25}, -2, 3.5)), "3e8075f0 true "},
		{"MeanPlace of {0, 0, 0.001}, 1, 1.5", say(impl.MeanPlace([]float32{0, 0, 0.001}, 1, 1.5)), "3fb00000 true "},
		{"OverlapOf of {1, 2}, {3, 4}", say(impl.OverlapOf([]float32{1, 2}, []float32{3, 4})), "41300000 true "},
		{"OverlapOf of {0.3, -0.9, 0.1}, {0.7, 0.6, -2.1}", say(impl.OverlapOf([]float32{0.3, -0.9, 0.1}, []float32{0.7, 0.6, -2.1})), "bf0a3d71 true "},
		{"OverlapOf of {3}, {num(minusZeroBits)}", say(impl.OverlapOf([]float32{3}, []float32{num(minusZeroBits)})), "00000000 true "},
	})
}
