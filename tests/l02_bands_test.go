package tests

import (
	"math"
	"testing"

	"loop.example/g01403/impl"
)

func TestCellsThatDoNotExist(t *testing.T) {
	wide := impl.Steps{Edges: []float32{-greatest, greatest}, Heights: []float32{0, 5, 0}}
	thick := impl.Steps{Edges: []float32{0, 100}, Heights: []float32{0, 2, 0}}
	wantFailing(t, []failing{
		{"CellTurns without edges", fails(impl.CellTurns(free, 1))},
		{"CellTurns of one edge", fails(impl.CellTurns(stair, 1))},
		{"CellTurns of a turn that is not finite", fails(impl.CellTurns(wide, 9))},
		{"CellTurns of growth that is not finite", fails(impl.CellTurns(thick, 1))},
		{"IsBand without edges", fails(impl.IsBand(free, 1))},
		{"IsBand of one edge", fails(impl.IsBand(stair, 1))},
		{"IsBand of growth that is not finite", fails(impl.IsBand(thick, 1))},
		{"BandEdges without edges", fails(impl.BandEdges(free, 1, 2, 2, 1))},
		{"BandEdges of one edge", fails(impl.BandEdges(stair, 1, 2, 2, 1))},
		{"BandEdges of growth that is not finite", fails(impl.BandEdges(thick, 1, 1.5, 2, 1))},
	})
}

func TestBandsAtTheirLimits(t *testing.T) {
	flat := func(width, height float32) impl.Steps {
		return impl.Steps{Edges: []float32{0, width}, Heights: []float32{0, height, 0}}
	}
	great := impl.Steps{Edges: []float32{0, 22.625, 45.875}, Heights: []float32{0, 5, 4.5, 0}}
	wantTold(t, []told{
		{"CellTurns of half a turn", say(impl.CellTurns(flat(math.Pi, 0), 1)), "bf800000,b3bbbd2e,33bbbd2e,bf800000,true "},
		{"IsBand at -1", say(impl.IsBand(flat(math.Pi, 0), 1)), "true true "},
		{"CellTurns of nearly nothing", say(impl.CellTurns(flat(least, 5), 1)), "3f800000,00000000,00000000,3f800000,true "},
		{"IsBand at 1", say(impl.IsBand(flat(least, 5), 1)), "true true "},
		{"IsBand far above 1", say(impl.IsBand(flat(80, 1), 0.25)), "false true "},
		{"CellTurns with a sum that is not finite", say(impl.CellTurns(great, 1)), "7f07a038,7e87a038,7f7dbb95,7efdbb95,true "},
		{"IsBand of a sum that is not finite", say(impl.IsBand(great, 1)), "false true "},
	})
}

func TestBandEdgesAreHalved(t *testing.T) {
	edges, ok := impl.BandEdges(cell, 0.25, 14, 24, 24)
	wantBool(t, "BandEdges", ok && len(edges) == 3, true)
	for _, edge := range edges {
		below, fineBelow := impl.IsBand(cell, edge*0.99999)
		above, fineAbove := impl.IsBand(cell, edge*1.00001)
		if !fineBelow || !fineAbove || below == above {
			t.Errorf("%v is no edge: %v below, %v above", edge, below, above)
		}
	}
	for _, rounds := range []int64{math.MinInt64, -1, 0, 25, math.MaxInt64} {
		wantFailing(t, []failing{{"BandEdges of rounds", fails(impl.BandEdges(cell, 0.25, 14, 24, rounds))}})
	}
	wantTold(t, []told{
		{"BandEdges where there are none", say(impl.BandEdges(wall, 3, 3.5, 3, 4)), "true "},
		{"BandEdges where one of two is halved out of sight", say(impl.BandEdges(cell, 1, 13, 2, 24)), "40e992c4,true "},
	})
	// The first middle is the height 5.
	wantFailing(t, []failing{{"BandEdges with a middle at a height", fails(impl.BandEdges(cell, 0.5, 9.5, 2, 1))}})
}
