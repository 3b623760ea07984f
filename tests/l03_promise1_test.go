package tests

import (
	"fmt"
	"math"
	"reflect"
	"testing"

	"loop.example/g01403/impl"
)

// sayJoined says what every function of integers of chapter 3 makes of its arguments.
func sayJoined(a, b, c, d, e, f int64, odd bool) string {
	return say(impl.IsTurn(a, b)) + say(impl.TotalsOf(a, b)) + say(impl.CountTotals([]int64{a, b, c})) +
		say(impl.JoinShare(a, b, c, d, e)) + say(impl.JoinRow(a, b, c, d)) + say(impl.JoinNumber(a, b, c, d, e)) +
		say(impl.SixShare(a, b, c, d, e, f)) + say(impl.ShareRow(a, b, c)) + say(impl.CanChange(a, b, odd, c > d)) +
		say(impl.FactorOf(a, b, c)) + say(impl.CountShell(a, b)) + say(impl.TermsOf(a, b)) + say(impl.LowestTerm(a, b)) +
		say(impl.RotorStates(a, b))
}

// sayRotors says what every function of numbers of chapter 3 makes of its arguments.
func sayRotors(bs []float32, x, y, z float32, n, kind int64) string {
	return say(impl.SplitLevels(kind, n, n, x, y)) + say(impl.RotorLevels(x, y, n)) + say(impl.TopLevels(x, y, n)) +
		say(impl.FirstTops(x, y, z)) + say(impl.RotorWeights(x, y, n)) + say(impl.BranchOf(x, y, z, kind, n)) +
		say(impl.BranchHead(x, y, z, n)) + say(impl.WeightsShared(bs, x, n, kind))
}

// TestTurnsReturn calls functions with all kinds of integers, twice.
func TestTurnsReturn(t *testing.T) {
	integers := []int64{math.MinInt64, math.MinInt64 + 1, -1 << 32, -7, -1, 0, 1, 2, 3, 5, 6, 7, 12, 13, 1 << 32, 1000000, math.MaxInt64 - 1, math.MaxInt64}
	at := func(i int) int64 { return integers[i%len(integers)] }
	for i, a := range integers {
		for j, b := range integers {
			for k, c := range integers {
				d, e, f := at(i+2*j+3*k), at(3*i+j+5*k), at(7*i+5*j+k)
				twice(t, fmt.Sprintf("turns of %d %d %d %d %d %d", a, b, c, d, e, f), func() string {
					return sayJoined(a, b, c, d, e, f, i%2 == 0)
				})
			}
		}
	}
}

// TestRotorsReturn calls functions with all kinds of numbers, twice.
func TestRotorsReturn(t *testing.T) {
	integers := []int64{math.MinInt64, -1, 0, 1, 2, 5, 8, 9, 40, 41, math.MaxInt64}
	for i, a := range strangeBits() {
		for j, b := range strangeBits() {
			x, y, z := num(a), num(b), num(strangeBits()[(3*i+j)%len(strangeBits())])
			n, kind := integers[(i*7+j)%len(integers)], integers[(i+3*j)%len(integers)]
			twice(t, fmt.Sprintf("rotors of %08x %08x %d %d", a, b, n, kind), func() string {
				return sayRotors([]float32{x, y, z}, x, y, z, n, kind) + sayRotors([]float32{y}, y, x, z, 3, 1)
			})
		}
	}
}

// TestListsOfTurnsAreNotModified looks at the memory of lists, and at what comes behind their ends.
func TestListsOfTurnsAreNotModified(t *testing.T) {
	for n := 1; n <= 6; n++ {
		turns, allTurns := withRoom([]int64{3, 1, 6, 0, 2, 5}[:n], 77)
		bs, allBs := withRoom([]float32{3, 1.5, 6, 0, 2, 5}[:n], 78)
		turnsBefore, bsBefore := append([]int64{}, allTurns...), append([]float32{}, allBs...)
		first := say(impl.CountTotals(turns)) + say(impl.WeightsShared(bs, 2, 4, 3))
		if !reflect.DeepEqual(turnsBefore, allTurns) || !sameNumbers(bsBefore, allBs) {
			t.Errorf("lists are modified: %v and %v, and then %v and %v", turnsBefore, bsBefore, allTurns, allBs)
		}
		if again := say(impl.CountTotals(turns)) + say(impl.WeightsShared(bs, 2, 4, 3)); again != first {
			t.Errorf("%s, and then %s", first, again)
		}
	}
}

// overwriteAll writes over lists, one after another, and looks whether those behind change with them.
func overwriteAll(t *testing.T, what string, lists ...[]int64) {
	t.Helper()
	for i, list := range lists {
		behind := fmt.Sprint(lists[i+1:])
		all := list[:cap(list)]
		for k := range all {
			all[k] = -99
		}
		if fmt.Sprint(lists[i+1:]) != behind {
			t.Errorf("%s: results share memory", what)
		}
	}
}

// TestTurnsAreNew writes over all that functions return, and looks whether an argument or another result changes.
func TestTurnsAreNew(t *testing.T) {
	turns, bs := []int64{3}, []float32{1, 2, 3}
	tell := func() string {
		return say(impl.TotalsOf(3, 4)) + say(impl.CountTotals(turns)) + say(impl.JoinRow(3, 4, 5, 1)) + say(impl.ShareRow(3, 1, 3)) +
			say(impl.TermsOf(1, 3)) + sayRotors(bs, 1, 2, 3, 3, 1) + say(impl.SplitLevels(2, 1, 3, 5, 1))
	}
	first := tell()
	totals, _ := impl.TotalsOf(3, 4)
	overwriteAll(t, "TotalsOf", totals)
	counts, _ := impl.CountTotals(turns)
	overwriteAll(t, "CountTotals", counts, turns)
	turns[0] = 3
	signs, uppers, lowers, _ := impl.JoinRow(3, 4, 5, 1)
	overwriteAll(t, "JoinRow", signs, uppers, lowers)
	up, down, _ := impl.ShareRow(3, 1, 3)
	overwriteAll(t, "ShareRow", up, down)
	terms, _ := impl.TermsOf(1, 3)
	overwriteAll(t, "TermsOf", terms)
	numbers := func(list []float32, _ bool) { overwrite(list) }
	numbers(impl.SplitLevels(2, 1, 3, 5, 1))
	numbers(impl.RotorLevels(1, 2, 3))
	numbers(impl.TopLevels(1, 2, 3))
	numbers(impl.FirstTops(1, 2, 3))
	numbers(impl.RotorWeights(1, 2, 3))
	numbers(impl.BranchOf(1, 2, 3, 1, 3))
	numbers(impl.WeightsShared(bs, 1, 3, 1))
	if again := tell(); again != first {
		t.Errorf("results share memory: %s, and then %s", first, again)
	}
}

func TestNilAndEmptyListsOfTurnsAreOneValue(t *testing.T) {
	wantTold(t, []told{
		{"CountTotals", say(impl.CountTotals(nil)), say(impl.CountTotals([]int64{}))},
		{"WeightsShared", say(impl.WeightsShared(nil, 1, 2, 3)), say(impl.WeightsShared([]float32{}, 1, 2, 3))},
	})
}
