package tests

import (
	"fmt"
	"math"
	"slices"
	"testing"

	"loop.example/g01403/impl"
)

var (
	// noTurns are numbers that are neither a turn of one, nor of both.
	noTurns = []int64{math.MinInt64, math.MinInt64 + 1, -2, -1, 13, 14, 1 << 32, math.MaxInt64 - 1, math.MaxInt64}

	// noParts are numbers that are parts of none of them.
	noParts = []int64{math.MinInt64, math.MinInt64 + 1, -14, -13, 13, 14, 1 << 32, math.MaxInt64 - 1, math.MaxInt64}
)

func TestTurnsHaveTheirParts(t *testing.T) {
	parts := [][]int64{{0}, {-1, 1}, {-2, 0, 2}, {-3, -1, 1, 3}, {-4, -2, 0, 2, 4}, {-5, -3, -1, 1, 3, 5}, {-6, -4, -2, 0, 2, 4, 6}}
	for a := int64(-8); a <= 14; a++ {
		for x := int64(-15); x <= 15; x++ {
			want := a >= 0 && a <= 6 && slices.Contains(parts[a], x)
			wantBool(t, fmt.Sprintf("IsTurn of %d, %d", a, x), impl.IsTurn(a, x), want)
		}
	}
	for _, n := range noTurns {
		for _, x := range append([]int64{0, 1, 6}, noTurns...) {
			wantBool(t, fmt.Sprintf("IsTurn of %d, %d", n, x), impl.IsTurn(n, x), false)
		}
	}
	for _, x := range noParts {
		for _, n := range append([]int64{0, 1, 6}, noTurns...) {
			wantBool(t, fmt.Sprintf("IsTurn of %d, %d", n, x), impl.IsTurn(n, x), false)
		}
	}
}

func TestTotalsThatDoNotExist(t *testing.T) {
	for _, n := range append([]int64{7, 8, 12}, noTurns...) {
		what := fmt.Sprintf(" with %d", n)
		wantFailing(t, []failing{
			{"TotalsOf" + what, fails(impl.TotalsOf(n, 1))},
			{"TotalsOf, behind," + what, fails(impl.TotalsOf(1, n))},
			{"TotalsOf twice" + what, fails(impl.TotalsOf(n, n))},
			{"CountTotals" + what, fails(impl.CountTotals([]int64{n}))},
			{"CountTotals, first," + what, fails(impl.CountTotals([]int64{n, 1, 1}))},
			{"CountTotals, last," + what, fails(impl.CountTotals([]int64{1, 1, n}))},
		})
	}
	wantFailing(t, []failing{
		{"CountTotals of none", fails(impl.CountTotals(nil))},
		{"CountTotals of an empty list", fails(impl.CountTotals([]int64{}))},
		{"CountTotals of 7 turns", fails(impl.CountTotals([]int64{0, 0, 0, 0, 0, 0, 0}))},
	})
}

func TestTurnsOf0LeaveOthersAsTheyAre(t *testing.T) {
	for a := int64(0); a <= 6; a++ {
		list, _ := impl.TotalsOf(a, 0)
		other, _ := impl.TotalsOf(0, a)
		counts, _ := impl.CountTotals([]int64{0, a, 0, 0, 0, 0})
		if !slices.Equal(list, []int64{a}) || !slices.Equal(other, list) || counts[a] != 1 || int64(len(counts)) != a+1 {
			t.Errorf("%d and 0: %v, %v and %v", a, list, other, counts)
		}
		for x := -a; x <= a; x += 2 {
			what := fmt.Sprintf("%d, %d", a, x)
			wantTold(t, []told{
				{"JoinShare of 0 and " + what, say(impl.JoinShare(0, 0, a, x, a)), "1 1 1 true "},
				{"JoinShare of 0 behind " + what, say(impl.JoinShare(a, x, 0, 0, a)), "1 1 1 true "},
				{"JoinRow of 0 and " + what, say(impl.JoinRow(0, a, a, x)), "[1] [1] [1] true "},
				{"JoinRow of 0 behind " + what, say(impl.JoinRow(a, 0, a, x)), "[1] [1] [1] true "},
				{"JoinNumber of 0 and " + what, say(impl.JoinNumber(0, 0, a, x, a)), "3f800000 true "},
				{"what two make of 0 from " + what, squareOf(impl.JoinShare(a, x, a, -x, 0)), fmt.Sprintf("1/%d", a+1)},
			})
		}
	}
}

func squareOf(_, upper, lower int64, _ bool) string { return fmt.Sprintf("%d/%d", upper, lower) }

func TestPartsAtTheirEndsMakeOne(t *testing.T) {
	for a := int64(0); a <= 6; a++ {
		for b := int64(0); b <= 6; b++ {
			what := fmt.Sprintf(" of %d and %d", a, b)
			wantTold(t, []told{
				{"JoinShare at upper ends" + what, say(impl.JoinShare(a, a, b, b, a+b)), "1 1 1 true "},
				{"JoinShare at lower ends" + what, say(impl.JoinShare(a, -a, b, -b, a+b)), "1 1 1 true "},
				{"JoinRow at the upper end" + what, say(impl.JoinRow(a, b, a+b, a+b)), "[1] [1] [1] true "},
				{"JoinRow at the lower end" + what, say(impl.JoinRow(a, b, a+b, -a-b)), "[1] [1] [1] true "},
			})
		}
	}
}

func TestJoinedSharesThatDoNotExist(t *testing.T) {
	for _, n := range noTurns {
		what := fmt.Sprintf(" with %d", n)
		wantFailing(t, []failing{
			{"JoinShare" + what, fails(impl.JoinShare(n, 0, 2, 0, 2))},
			{"JoinShare, other," + what, fails(impl.JoinShare(2, 0, n, 0, 2))},
			{"JoinShare, total," + what, fails(impl.JoinShare(2, 0, 2, 0, n))},
			{"JoinRow" + what, fails(impl.JoinRow(n, 2, 2, 0))},
			{"JoinRow, other," + what, fails(impl.JoinRow(2, n, 2, 0))},
			{"JoinRow, total," + what, fails(impl.JoinRow(2, 2, n, 0))},
			{"JoinNumber" + what, fails(impl.JoinNumber(n, 0, 2, 0, 2))},
			{"JoinNumber, other," + what, fails(impl.JoinNumber(2, 0, n, 0, 2))},
			{"JoinNumber, total," + what, fails(impl.JoinNumber(2, 0, 2, 0, n))},
		})
	}
	wantFailing(t, []failing{
		{"JoinShare of a turn of 7", fails(impl.JoinShare(7, 1, 0, 0, 7))},
		{"JoinShare of another turn of 7", fails(impl.JoinShare(0, 0, 7, 1, 7))},
		{"JoinShare of an even part of 1", fails(impl.JoinShare(1, 0, 1, 1, 2))},
		{"JoinShare of another even part of 1", fails(impl.JoinShare(1, 1, 1, 0, 2))},
		{"JoinShare of even parts of 1", fails(impl.JoinShare(1, 0, 1, 0, 2))},
		{"JoinShare of part 3 of 1", fails(impl.JoinShare(1, 3, 1, -1, 2))},
		{"JoinShare of another part -3 of 1", fails(impl.JoinShare(1, 1, 1, -3, 2))},
		{"JoinShare of too small a total", fails(impl.JoinShare(4, 0, 2, 0, 0))},
		{"JoinShare of too great a total", fails(impl.JoinShare(4, 0, 2, 0, 8))},
		{"JoinShare of an odd total of even turns", fails(impl.JoinShare(4, 0, 2, 0, 3))},
		{"JoinShare of parts that 0 does not have", fails(impl.JoinShare(1, 1, 1, 1, 0))},
		{"JoinShare of parts that 2 does not have", fails(impl.JoinShare(2, -2, 2, -2, 2))},
		{"JoinRow of turns of 7", fails(impl.JoinRow(7, 0, 7, 1))},
		{"JoinRow of other turns of 7", fails(impl.JoinRow(0, 7, 7, 1))},
		{"JoinRow of too small a total", fails(impl.JoinRow(4, 2, 0, 0))},
		{"JoinRow of too great a total", fails(impl.JoinRow(4, 2, 8, 0))},
		{"JoinRow of an odd total of even turns", fails(impl.JoinRow(4, 2, 3, 1))},
		{"JoinRow of part 4 of 2", fails(impl.JoinRow(2, 2, 2, 4))},
		{"JoinRow of part -4 of 2", fails(impl.JoinRow(2, 2, 2, -4))},
		{"JoinRow of an odd part of 2", fails(impl.JoinRow(2, 2, 2, 1))},
		{"JoinNumber of parts that 0 does not have", fails(impl.JoinNumber(1, 1, 1, 1, 0))},
		{"JoinNumber of an even part of 1", fails(impl.JoinNumber(1, 0, 1, 1, 2))},
	})
}

func TestSharesOfWhatIsNoPart(t *testing.T) {
	for _, n := range noParts {
		what := fmt.Sprintf(" with part %d", n)
		wantFailing(t, []failing{
			{"JoinShare" + what, fails(impl.JoinShare(2, n, 2, 0, 2))},
			{"JoinShare, other," + what, fails(impl.JoinShare(2, 0, 2, n, 2))},
			{"JoinShare, both," + what, fails(impl.JoinShare(2, n, 2, -n, 2))},
			{"JoinRow" + what, fails(impl.JoinRow(2, 2, 2, n))},
			{"JoinNumber" + what, fails(impl.JoinNumber(2, n, 2, 0, 2))},
			{"JoinNumber, other," + what, fails(impl.JoinNumber(2, 0, 2, n, 2))},
			{"ShareRow" + what, fails(impl.ShareRow(2, n, 2))},
		})
	}
}

func TestSixesThatDoNotExist(t *testing.T) {
	for place := range 6 {
		for _, n := range append([]int64{1, 3, 6, 7, 8, 10}, noTurns...) {
			six := [6]int64{2, 2, 2, 2, 2, 2}
			six[place] = n
			said := fails(impl.SixShare(six[0], six[1], six[2], six[3], six[4], six[5]))
			wantFailing(t, []failing{{fmt.Sprintf("SixShare of %v", six), said}})
		}
	}
	wantFailing(t, []failing{
		{"SixShare with only the first triple broken", fails(impl.SixShare(2, 4, 0, 2, 2, 2))},
		{"SixShare with the second triple broken", fails(impl.SixShare(0, 0, 0, 0, 0, 2))},
		{"SixShare of a third turn of 8", fails(impl.SixShare(4, 4, 8, 4, 4, 4))},
		{"SixShare of a last turn of 8", fails(impl.SixShare(4, 4, 4, 4, 4, 8))},
		{"SixShare of third and last turns of 12", fails(impl.SixShare(6, 6, 12, 6, 6, 12))},
	})
}

// TestSixesNeedAllTriples holds which sixes exist against the totals of the triples.
func TestSixesNeedAllTriples(t *testing.T) {
	makes := func(p, q, r int64) bool {
		totals, _ := impl.TotalsOf(p, q)
		return slices.Contains(totals, r)
	}
	for n := range int64(4 * 4 * 4 * 4 * 4 * 4) {
		a, b, c, d, e, f := n%4, n/4%4, n/16%4, n/64%4, n/256%4, n/1024
		_, _, _, ok := impl.SixShare(a, b, c, d, e, f)
		want := makes(a, b, c) && makes(a, e, f) && makes(d, b, f) && makes(d, e, c)
		wantBool(t, fmt.Sprintf("SixShare of %d %d %d %d %d %d", a, b, c, d, e, f), ok, want)
	}
}

func TestLinesThatDoNotExist(t *testing.T) {
	for _, n := range noTurns {
		what := fmt.Sprintf(" with %d", n)
		wantFailing(t, []failing{
			{"ShareRow" + what, fails(impl.ShareRow(n, 0, 2))},
			{"ShareRow, total," + what, fails(impl.ShareRow(2, 0, n))},
			{"CanChange" + what, fails(impl.CanChange(n, 2, true, false))},
			{"CanChange, other," + what, fails(impl.CanChange(2, n, true, false))},
			{"FactorOf" + what, fails(impl.FactorOf(n, 2, 2))},
			{"FactorOf, side," + what, fails(impl.FactorOf(2, n, 2))},
			{"FactorOf, total," + what, fails(impl.FactorOf(2, 2, n))},
			{"SplitLevels" + what, fails(impl.SplitLevels(n, 2, 2, 1, 1))},
			{"SplitLevels, side," + what, fails(impl.SplitLevels(2, n, 2, 1, 1))},
			{"SplitLevels, total," + what, fails(impl.SplitLevels(2, 2, n, 1, 1))},
		})
	}
	wantFailing(t, []failing{
		{"ShareRow of a turn of 7", fails(impl.ShareRow(7, 1, 7))},
		{"ShareRow of part 1 of 2", fails(impl.ShareRow(2, 1, 2))},
		{"ShareRow of part 4 of 2", fails(impl.ShareRow(2, 4, 4))},
		{"ShareRow of part -4 of 2", fails(impl.ShareRow(2, -4, 4))},
		{"ShareRow of a line from 0 to 0", fails(impl.ShareRow(0, 0, 0))},
		{"ShareRow of a line from 1 to 5", fails(impl.ShareRow(1, 1, 5))},
		{"ShareRow of a line from 6 to 2", fails(impl.ShareRow(6, 0, 2))},
		{"ShareRow of a line from 2 to 1", fails(impl.ShareRow(2, 0, 1))},
		{"CanChange from a turn of 7", fails(impl.CanChange(7, 7, true, false))},
		{"CanChange from a turn of 8", fails(impl.CanChange(8, 6, true, false))},
		{"FactorOf an odd l", fails(impl.FactorOf(1, 1, 2))},
		{"FactorOf another odd l", fails(impl.FactorOf(3, 2, 1))},
		{"FactorOf a turn of 0", fails(impl.FactorOf(2, 2, 0))},
		{"FactorOf turns of 0", fails(impl.FactorOf(0, 0, 0))},
		{"FactorOf what is no total", fails(impl.FactorOf(2, 2, 6))},
		{"FactorOf an odd total of even turns", fails(impl.FactorOf(2, 2, 3))},
		{"FactorOf an l of 8", fails(impl.FactorOf(8, 2, 6))},
		{"FactorOf an s of 7", fails(impl.FactorOf(2, 7, 5))},
		{"SplitLevels of an odd l", fails(impl.SplitLevels(1, 1, 2, 1, 1))},
		{"SplitLevels of a turn of 0", fails(impl.SplitLevels(2, 2, 0, 1, 1))},
		{"SplitLevels of what is no total", fails(impl.SplitLevels(2, 2, 6, 1, 1))},
	})
}

// TestChangesFollowTotals looks at all turns from 0 to 12, which light may lead to.
func TestChangesFollowTotals(t *testing.T) {
	for a := int64(0); a <= 6; a++ {
		for b := int64(0); b <= 12; b++ {
			leads := b == a+2 || b == a && a > 0 || b == a-2
			for _, sides := range [][2]bool{{false, false}, {false, true}, {true, false}, {true, true}} {
				can, ok := impl.CanChange(a, b, sides[0], sides[1])
				if !ok || can != (leads && sides[0] != sides[1]) {
					t.Errorf("CanChange of %d, %d, %v: got %v %v", a, b, sides, can, ok)
				}
			}
		}
	}
}

func TestSplitLevelsAtTheirLimits(t *testing.T) {
	wantTold(t, []told{
		{"SplitLevels without a field", say(impl.SplitLevels(2, 1, 3, minusZero, 0)), "80000000,80000000,00000000,00000000,true "},
		{"SplitLevels by nothing", say(impl.SplitLevels(4, 3, 1, 7, greatest)), "40e00000,40e00000,true "},
		{"SplitLevels by the greatest field", say(impl.SplitLevels(4, 2, 2, 0, greatest)), "feffffff,00000000,7effffff,true "},
		{"SplitLevels by the least field", say(impl.SplitLevels(0, 1, 1, 0, least)), "80000001,00000001,true "},
		{"SplitLevels, told from left to right", say(impl.SplitLevels(2, 1, 3, 0, least)), "80000002,00000000,00000000,00000002,true "},
	})
	for _, x := range notFinite() {
		wantFailing(t, []failing{
			{"SplitLevels of the level " + say(x), fails(impl.SplitLevels(2, 1, 3, x, 1))},
			{"SplitLevels by the field " + say(x), fails(impl.SplitLevels(2, 1, 3, 1, x))},
			{"SplitLevels, by nothing, with the field " + say(x), fails(impl.SplitLevels(4, 3, 1, 1, x))},
		})
	}
	wantFailing(t, []failing{
		{"SplitLevels with a product that is not finite", fails(impl.SplitLevels(0, 1, 1, 0, greatest))},
		{"SplitLevels with a sum that is not finite", fails(impl.SplitLevels(4, 2, 2, greatest, greatest))},
		{"SplitLevels with a first sum that is not finite", fails(impl.SplitLevels(4, 2, 2, -greatest, greatest))},
	})
}

func TestShellsThatDoNotExist(t *testing.T) {
	for _, n := range append([]int64{3}, noTurns...) {
		what := fmt.Sprintf(" with %d", n)
		wantFailing(t, []failing{
			{"CountShell" + what, fails(impl.CountShell(n, 1))},
			{"CountShell, places," + what, fails(impl.CountShell(0, n))},
			{"TermsOf" + what, fails(impl.TermsOf(n, 1))},
			{"TermsOf, places," + what, fails(impl.TermsOf(0, n))},
			{"LowestTerm" + what, fails(impl.LowestTerm(n, 1))},
			{"LowestTerm, places," + what, fails(impl.LowestTerm(0, n))},
		})
	}
	for l := int64(0); l <= 2; l++ {
		all := 4*l + 2
		what := fmt.Sprintf(" of shell %d", l)
		wantFailing(t, []failing{
			{"CountShell" + what, fails(impl.CountShell(l, all+1))},
			{"CountShell of less than none" + what, fails(impl.CountShell(l, -1))},
			{"TermsOf" + what, fails(impl.TermsOf(l, all+1))},
			{"TermsOf less than none" + what, fails(impl.TermsOf(l, -1))},
			{"LowestTerm" + what, fails(impl.LowestTerm(l, all+1))},
			{"LowestTerm of all" + what, fails(impl.LowestTerm(l, all))},
			{"LowestTerm of none" + what, fails(impl.LowestTerm(l, 0))},
		})
		wantTold(t, []told{
			{"TermsOf none" + what, say(impl.TermsOf(l, 0)), "[0 0 1] true "},
			{"TermsOf all" + what, say(impl.TermsOf(l, all)), "[0 0 1] true "},
			{"CountShell of all" + what, say(impl.CountShell(l, all)), "1 true "},
		})
	}
}
