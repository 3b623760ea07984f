package tests

import (
	"fmt"
	"math"
	"slices"
	"testing"

	"loop.example/g01403/impl"
)

// wrongLevels are neither 1 to 12 nor near to it.
func wrongLevels() []int64 { return []int64{math.MinInt64, -1, 0, 13, 1 << 32, math.MaxInt64} }

// chain has edges of 1 from each of so many levels to the next one.
func chain(levels int64) []impl.Edge {
	var edges []impl.Edge
	for i := range levels - 1 {
		edges = append(edges, edge(i, i+1, 1))
	}
	return edges
}

// wantNoEdges checks edges that are none, beside others that would tell all levels.
func wantNoEdges(t *testing.T, what string, levels int64, edges ...impl.Edge) {
	t.Helper()
	for _, list := range [][]impl.Edge{edges, append(chain(levels), edges...), append(edges, chain(levels)...)} {
		wantBool(t, "AreEdges, "+what, impl.AreEdges(levels, list), false)
		wantFailing(t, []failing{
			{"EdgeLevels, " + what, fails(impl.EdgeLevels(levels, list))},
			{"WorstRing, " + what, fails(impl.WorstRing(levels, list))},
		})
	}
}

func TestEdgesThatAreNone(t *testing.T) {
	for _, levels := range []int64{2, 3, 12} {
		for _, x := range notFinite() {
			wantNoEdges(t, "a place of "+say(x), levels, edge(0, 1, x))
		}
		for _, level := range []int64{math.MinInt64, -1, levels, levels + 1, 1 << 32, math.MaxInt64} {
			wantNoEdges(t, fmt.Sprintf("from %d of %d", level, levels), levels, edge(level, 0, 1))
			wantNoEdges(t, fmt.Sprintf("to %d of %d", level, levels), levels, edge(0, level, 1))
			wantNoEdges(t, fmt.Sprintf("from %d to itself", level), levels, edge(level, level, 1))
		}
		for level := range levels {
			wantNoEdges(t, fmt.Sprintf("from %d to itself", level), levels, edge(level, level, 0))
		}
		for _, n := range []int{33, 34, 100} {
			wantNoEdges(t, fmt.Sprintf("%d of them", n), levels, slices.Repeat([]impl.Edge{edge(0, 1, 1)}, n)...)
		}
	}
	for _, levels := range wrongLevels() {
		wantBool(t, "AreEdges", impl.AreEdges(levels, nil), false)
		wantBool(t, "AreEdges", impl.AreEdges(levels, []impl.Edge{edge(0, 1, 1)}), false)
		wantFailing(t, []failing{
			{fmt.Sprintf("EdgeLevels of %d", levels), fails(impl.EdgeLevels(levels, nil))},
			{fmt.Sprintf("WorstRing of %d", levels), fails(impl.WorstRing(levels, nil))},
		})
	}
}

func TestMostEdges(t *testing.T) {
	many := append(slices.Repeat([]impl.Edge{edge(0, 1, 1)}, 21), chain(12)...)
	want := make([]float32, 12)
	for i := range want {
		want[i] = float32(i)
	}
	wantBool(t, "AreEdges of 32", len(many) == 32 && impl.AreEdges(12, many), true)
	wantTold(t, []told{
		{"EdgeLevels of 32 edges", say(impl.EdgeLevels(12, many)), say(want, true)},
		{"WorstRing of 32 edges", say(impl.WorstRing(12, many)), say(float32(0), true)},
	})
}

func TestLevelsThatAreNotTold(t *testing.T) {
	for levels := int64(1); levels <= 12; levels++ {
		wantBool(t, "AreEdges of none", impl.AreEdges(levels, nil) && impl.AreEdges(levels, []impl.Edge{}), true)
		edges := chain(levels)
		wantTold(t, []told{{"WorstRing of a chain", say(impl.WorstRing(levels, edges)), say(float32(0), true)}})
		for i := range edges {
			fewer := slices.Delete(slices.Clone(edges), i, i+1)
			what := fmt.Sprintf(" of %d without edge %d", levels, i)
			wantBool(t, "AreEdges"+what, impl.AreEdges(levels, fewer), true)
			wantFailing(t, []failing{
				{"EdgeLevels" + what, fails(impl.EdgeLevels(levels, fewer))},
				{"WorstRing" + what, fails(impl.WorstRing(levels, fewer))},
			})
		}
	}
	apart := []impl.Edge{edge(2, 3, 1), edge(3, 2, -1), edge(0, 1, 1)}
	wantFailing(t, []failing{
		{"EdgeLevels of a ring apart", fails(impl.EdgeLevels(4, apart))},
		{"WorstRing of a ring apart", fails(impl.WorstRing(4, apart))},
		{"EdgeLevels that are too great", fails(impl.EdgeLevels(3, []impl.Edge{edge(0, 1, greatest), edge(1, 2, greatest)}))},
		{"WorstRing that is too great", fails(impl.WorstRing(3, []impl.Edge{edge(0, 1, greatest), edge(0, 2, -greatest), edge(2, 1, 0)}))},
	})
}

// TestEdgesInOrder tells levels by the first edge that can, again and again from the first one on.
func TestEdgesInOrder(t *testing.T) {
	wantTold(t, []told{
		{"EdgeLevels told twice", say(impl.EdgeLevels(2, []impl.Edge{edge(0, 1, 2), edge(0, 1, 3)})), say([]float32{0, 2}, true)},
		{"EdgeLevels told from both sides", say(impl.EdgeLevels(2, []impl.Edge{edge(1, 0, 2), edge(0, 1, 3)})), say([]float32{0, -2}, true)},
		// The level 1 is told by the first edge, as soon as 2 is, and not by the last one.
		{"EdgeLevels told behind others", say(impl.EdgeLevels(3, []impl.Edge{edge(1, 2, 10), edge(0, 2, 4), edge(0, 1, 1)})), say([]float32{0, -6, 4}, true)},
		{"EdgeLevels told at once", say(impl.EdgeLevels(3, []impl.Edge{edge(1, 2, 10), edge(0, 1, 1), edge(0, 2, 4)})), say([]float32{0, 1, 11}, true)},
		{"WorstRing told behind others", say(impl.WorstRing(3, []impl.Edge{edge(1, 2, 10), edge(0, 2, 4), edge(0, 1, 1)})), say(float32(7), true)},
	})
}

func TestDifferencesOfListsOfOtherLengths(t *testing.T) {
	for _, n := range []int{0, 1, 2, 31, 32, 33, 100} {
		for _, m := range []int{0, 1, 2, 31, 32, 33, 100} {
			what := fmt.Sprintf("DifferencesOf %d and %d", n, m)
			ups, downs := repeatNumber(5, n), repeatNumber(3, m)
			if n == m && n >= 1 && n <= 32 {
				wantTold(t, []told{{what, say(impl.DifferencesOf(ups, downs)), say(repeatNumber(2, n), true)}})
				continue
			}
			wantFailing(t, []failing{{what, fails(impl.DifferencesOf(ups, downs))}})
		}
	}
	for _, x := range notFinite() {
		for i := range 3 {
			odd, fine := setAt([]float32{1, 2, 3}, i, x), []float32{3, 2, 1}
			wantFailing(t, []failing{
				{"DifferencesOf, ups of " + say(x), fails(impl.DifferencesOf(odd, fine))},
				{"DifferencesOf, downs of " + say(x), fails(impl.DifferencesOf(fine, odd))},
				{"DifferencesOf both of " + say(x), fails(impl.DifferencesOf(odd, odd))},
			})
		}
	}
	wantFailing(t, []failing{{"DifferencesOf that are too great", fails(impl.DifferencesOf([]float32{1, greatest}, []float32{1, -greatest}))}})
}

func TestMatchesThatAreRefused(t *testing.T) {
	list := []float32{1, 2, 3}
	for _, x := range notFinite() {
		what := " of " + say(x)
		for i := range list {
			wantFailing(t, []failing{
				{"MatchLines, places" + what, fails(impl.MatchLines(setAt(list, i, x), list, 1))},
				{"MatchLines, catalog" + what, fails(impl.MatchLines(list, setAt(list, i, x), 1))},
				{"MatchLines nothing, catalog" + what, fails(impl.MatchLines(nil, setAt(list, i, x), 1))},
				{"MatchLines with nothing, places" + what, fails(impl.MatchLines(setAt(list, i, x), nil, 1))},
			})
		}
	}
	for _, x := range append(belowZero(), notFinite()...) {
		wantFailing(t, []failing{
			{"MatchLines, window of " + say(x), fails(impl.MatchLines(list, list, x))},
			{"MatchLines nothing, window of " + say(x), fails(impl.MatchLines(nil, nil, x))},
		})
	}
}

func TestCountsOfMatches(t *testing.T) {
	for _, n := range []int{0, 1, 127, 128, 129, 1000} {
		for _, m := range []int{0, 1, 127, 128, 129, 1000} {
			places, catalog := make([]float32, n), make([]float32, m)
			for i := range places {
				places[i] = float32(i)
			}
			for i := range catalog {
				catalog[i] = float32(m - 1 - i)
			}
			matches, ok := impl.MatchLines(places, catalog, 0.25)
			what := fmt.Sprintf("MatchLines of %d and %d", n, m)
			if n > 128 || m > 128 {
				wantFailing(t, []failing{{what, fails(matches, ok)}})
				continue
			}
			wantBool(t, what, ok && len(matches) == n, true)
			for i, match := range matches {
				if want := int64(m - 1 - i); match != max(want, -1) {
					t.Errorf("%s: place %d has %d, want %d", what, i, match, want)
				}
			}
		}
	}
}

// TestEachOfACatalogIsMatchedOnce looks at the nearest ones of places and catalogs that are often equally far.
func TestEachOfACatalogIsMatchedOnce(t *testing.T) {
	walkFor(1000, 92, func(r [4]uint32) []int64 {
		places, catalog := someNumbers(int(r[1]%14), r), someNumbers(int(r[2]%9), [4]uint32{r[2], r[0], r[3], r[1]})
		window := float32(r[3]%12) / 8
		matches, ok := impl.MatchLines(places, catalog, window)
		wantBool(t, "MatchLines", ok && len(matches) == len(places), true)
		nearest := make([]int, len(places))
		for i, place := range places {
			nearest[i] = firstNearest(catalog, place, window)
		}
		for i, place := range places {
			want := int64(nearest[i])
			for k, other := range places {
				if want < 0 || k == i || nearest[k] != nearest[i] {
					continue
				}
				mine, its := far(place, catalog[nearest[i]]), far(other, catalog[nearest[i]])
				if its < mine || its == mine && k < i {
					want = -1
				}
			}
			if matches[i] != want {
				t.Errorf("MatchLines of %v, %v, %v: place %d has %d, want %d", places, catalog, window, i, matches[i], want)
			}
		}
		return nil
	})
}

func far(a, b float32) float32 { return float32(math.Abs(float64(a - b))) }

// firstNearest returns the index of the first one of the nearest numbers that are at most window away, or -1.
func firstNearest(catalog []float32, place, window float32) int {
	var all []float32
	for _, x := range catalog {
		all = append(all, far(x, place))
	}
	if len(all) == 0 || slices.Min(all) > window {
		return -1
	}
	return slices.Index(all, slices.Min(all))
}

func TestLaddersThatAreRefused(t *testing.T) {
	for _, n := range []int{0, 1, 2, 3, 4, 31, 32, 33, 100} {
		places, what := repeatNumber(2, n), fmt.Sprintf(" of %d places", n)
		if n >= 3 && n <= 32 {
			wantTold(t, []told{
				{"LadderFit" + what, say(impl.LadderFit(places)), say(float32(2), float32(0), float32(0), true)},
				{"LadderNext" + what, say(impl.LadderNext(places)), say(float32(2), true)},
			})
			continue
		}
		wantFailing(t, []failing{
			{"LadderFit" + what, fails(impl.LadderFit(places))},
			{"LadderNext" + what, fails(impl.LadderNext(places))},
		})
	}
	for _, x := range notFinite() {
		for i := range 5 {
			places := setAt([]float32{1, 2, 3, 4, 5}, i, x)
			wantFailing(t, []failing{
				{"LadderFit of " + say(places), fails(impl.LadderFit(places))},
				{"LadderNext of " + say(places), fails(impl.LadderNext(places))},
			})
		}
	}
	wantFailing(t, []failing{
		{"LadderFit whose first numbers are too great", fails(impl.LadderFit([]float32{0, greatest, 0, 1}))},
		{"LadderFit whose last number is too great", fails(impl.LadderFit([]float32{-greatest, greatest, greatest}))},
		{"LadderNext that is too great", fails(impl.LadderNext([]float32{0, 1, 2, greatest}))},
	})
	// What is too great for one of both is far from what the other one takes.
	_, _, _, ok := impl.LadderFit([]float32{0, 1, 2, greatest})
	wantBool(t, "LadderFit of first places", ok, true)
	_, ok = impl.LadderNext([]float32{greatest, -greatest, 1, 2, 3})
	wantBool(t, "LadderNext of last places", ok, true)
}

// TestLaddersGoOn holds both functions against ladders with small numbers, which are exact.
func TestLaddersGoOn(t *testing.T) {
	for _, a := range []float32{-5, 0, 2.25} {
		for _, b := range []float32{-1.5, 0, 4} {
			for _, c := range []float32{-0.25, 0, 3} {
				rung := func(n int) float32 { return a + b*float32(n) + c*float32(n*n) }
				var places []float32
				for n := range 32 {
					if n >= 3 {
						wantTold(t, []told{
							{"LadderFit", say(impl.LadderFit(places)), say(a, b, c, true)},
							{"LadderNext", say(impl.LadderNext(places)), say(rung(n), true)},
						})
					}
					places = append(places, rung(n))
				}
			}
		}
	}
}
