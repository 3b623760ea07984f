package tests

import (
	"testing"

	"loop.example/g01403/impl"
)

const rotorSteps = 6000

// sweep folds the results for all integers from low to high in each of so many places, the last one first.
func sweep(places int, low, high int64, tell func(n []int64) []int64) uint64 {
	n, folded := make([]int64, places), uint64(0)
	var fill func(place int)
	fill = func(place int) {
		if place == places {
			for _, x := range tell(n) {
				folded = folded*1099511628211 + uint64(x)
			}
			return
		}
		for n[place] = low; n[place] <= high; n[place]++ {
			fill(place + 1)
		}
	}
	fill(0)
	return folded
}

// TestSweepsOfTurns holds folded results for all small integers against those of another program, as TestWalks does.
func TestSweepsOfTurns(t *testing.T) {
	sweeps := []struct {
		what      string
		places    int
		low, high int64
		tell      func(n []int64) []int64
		want      uint64
	}{
		{"CountTotals", 4, -1, 7, func(n []int64) []int64 { return bitsOfAll(impl.CountTotals(n)) }, 0xefc8bda131beb9e0},
		{"JoinShare", 5, -4, 8, func(n []int64) []int64 { return bitsOfAll(impl.JoinShare(n[0], n[1], n[2], n[3], n[4])) }, 0xdcb4f15e4af5f872},
		{"JoinRow", 4, -12, 13, func(n []int64) []int64 { return bitsOfAll(impl.JoinRow(n[0], n[1], n[2], n[3])) }, 0xc9a4efa7ae319138},
		{"JoinNumber", 5, -4, 8, func(n []int64) []int64 { return bitsOfAll(impl.JoinNumber(n[0], n[1], n[2], n[3], n[4])) }, 0x15c1638512d21bb8},
		{"SixShare", 6, 0, 7, func(n []int64) []int64 { return bitsOfAll(impl.SixShare(n[0], n[1], n[2], n[3], n[4], n[5])) }, 0x7da733775d32a600},
		{"ShareRow", 3, -13, 13, func(n []int64) []int64 { return bitsOfAll(impl.ShareRow(n[0], n[1], n[2])) }, 0x5850743f24825abb},
		{"FactorOf", 3, -2, 14, func(n []int64) []int64 { return bitsOfAll(impl.FactorOf(n[0], n[1], n[2])) }, 0x3e9d1214d8928319},
		{"TermsOf", 2, -1, 11, func(n []int64) []int64 { return bitsOfAll(impl.TermsOf(n[0], n[1])) }, 0x34fafb80c0ac526a},
		{"LowestTerm", 2, -1, 11, func(n []int64) []int64 { return bitsOfAll(impl.LowestTerm(n[0], n[1])) }, 0x1921c89a690f3188},
	}
	for _, s := range sweeps {
		if got := sweep(s.places, s.low, s.high, s.tell); got != s.want {
			t.Errorf("%s: the sweep leads to %016x, want %016x", s.what, got, s.want)
		}
	}
}

func splitBits(r [4]uint32) []int64 {
	l, s := 2*int64(r[0]%4), int64(r[0]>>8%7)
	j := max(l-s, s-l) + 2*(int64(r[0]>>16)%(min(l, s)+1))
	return bitsOfAll(impl.SplitLevels(l, s, j, mild(r[1]), mild(r[2])))
}

func levelBits(r [4]uint32) []int64 {
	list := bitsOfAll(impl.RotorLevels(mildPositive(r[0]), mildPositive(r[1]), 1+int64(r[3]%9)))
	list = append(list, bitsOfAll(impl.TopLevels(mildPositive(r[1]), mildPositive(r[2]), int64(r[3]%7)))...)
	return append(list, bitsOfAll(impl.FirstTops(mildPositive(r[0]), mildPositive(r[1]), mildPositive(r[2])))...)
}

func weightBits(r [4]uint32) []int64 {
	b, warm := mildPositive(r[0])/64, mildPositive(r[1])
	list := bitsOfAll(impl.RotorWeights(b, warm, 1+int64(r[2]%12)))
	return append(list, bitsOfAll(impl.WeightsShared([]float32{b, warm, b / 3}, warm, 4, 2))...)
}

func branchBits(r [4]uint32) []int64 {
	b, other, origin := mildPositive(r[0]), mild(r[1]), mild(r[2])
	list := bitsOfAll(impl.BranchOf(b, other, origin, int64(r[3]%3)-1, 1+int64(r[3]>>8%9)))
	return append(list, bitsOfAll(impl.BranchHead(b, b+other/1024, origin, 40))...)
}

// TestWalksOfTurns holds folded results against those of another program, as TestWalks does.
func TestWalksOfTurns(t *testing.T) {
	wantWalks(t, rotorSteps, []walkTo{
		{"SplitLevels", 41, splitBits, 0xa8cb67bc19f816db},
		{"RotorLevels, TopLevels and FirstTops", 42, levelBits, 0x19da2bd4f990713a},
		{"RotorWeights and WeightsShared", 43, weightBits, 0x2919992fee4f63c5},
		{"BranchOf and BranchHead", 44, branchBits, 0x8abac5b655da2f19},
	})
}
