package tests

import (
	"fmt"
	"math"
	"reflect"
	"testing"

	"loop.example/g01403/impl"
)

// lined are arguments of functions of chapter 5 that are lists.
type lined struct {
	lines, others []impl.Line
	many          [][]impl.Line
	list, catalog []float32
	edges         []impl.Edge
}

// sayLined says what every function of chapter 5 makes of its arguments.
func sayLined(d lined, x, y, z float32, n, k int64) string {
	l, m := line(x, y, z, k), line(z, x, y, n)
	return say(impl.ValidLine(l), impl.SameLines(d.lines, d.others), impl.SameLines([]impl.Line{l}, []impl.Line{m}), impl.AreEdges(n, d.edges)) +
		say(impl.LineAt(l, x)) + say(impl.LineAt(line(y, z, 1, n), x)) + say(impl.AreaOf(l)) + say(impl.LinesAt(d.lines, x)) + say(impl.LinesAt(append(d.others[:len(d.others):len(d.others)], l), y)) +
		say(impl.SpectrumOf(d.lines, x, y, n)) + say(impl.SpectraShared(d.many, x, y, n, k)) + say(impl.SpectraShared(d.many, x, y, 3, n)) +
		say(impl.ShiftLines(d.lines, x, y)) + say(impl.BlendLines(l, m)) + say(impl.BlendLines(l, line(y, z, 1, 0))) +
		say(impl.PeaksOf(d.list, x, n)) + say(impl.BendOf(d.list)) + say(impl.BentPeaks(d.list, x)) + say(impl.PeakPlace(d.list, n)) + say(impl.HalfWidth(d.list, n)) +
		say(impl.RestOf(d.lines, d.list, x, y)) + say(impl.FitHeights(d.lines, d.list, x, y)) + say(impl.FitHeights(d.others, d.catalog, x, y)) +
		say(impl.FitLine(l, d.list, x, y, n)) + say(impl.FitLine(line(1, y, 1, 1), d.list, z, x, k)) + say(impl.CriterionOf(x, n, k)) + say(impl.CountLines(d.many, d.list, x, y)) +
		say(impl.EdgeLevels(n, d.edges)) + say(impl.WorstRing(n, d.edges)) + say(impl.DifferencesOf(d.list, d.catalog)) +
		say(impl.MatchLines(d.list, d.catalog, x)) + say(impl.LadderFit(d.list)) + say(impl.LadderNext(d.list))
}

// someLined returns arguments that are as they must be, for three levels.
func someLined() lined {
	return lined{
		append([]impl.Line{}, twoLines...), append([]impl.Line{}, fourKinds...),
		[][]impl.Line{append([]impl.Line{}, twoLines...), {}, {line(0, 2, 0.9, 0)}},
		append([]float32{}, noisy...), append([]float32{}, humps[:len(noisy)]...), []impl.Edge{edge(0, 1, 2), edge(1, 2, 3), edge(0, 2, 5.5)},
	}
}

// TestLinesReturn calls every function of chapter 5 with all kinds of numbers, twice.
func TestLinesReturn(t *testing.T) {
	integers := []int64{math.MinInt64, -1, 0, 1, 2, 3, 4, 8, 9, 12, 13, 16, 17, 128, 129, math.MaxInt64}
	bits := strangeBits()
	for i, a := range bits {
		for j, b := range bits {
			x, y, z := num(a), num(b), num(bits[(3*i+j)%len(bits)])
			n, k := integers[(i*7+j)%len(integers)], integers[(i+5*j)%len(integers)]
			odd := lined{
				[]impl.Line{line(x, y, 1, 0)}, []impl.Line{line(1, 2, z, k), line(y, x, 1, 2)}, [][]impl.Line{{line(x, y, z, 1)}, nil, {line(0, y, 1, n)}},
				[]float32{x, y, 1, z, 2}, []float32{y, 0, z, x, 1}, []impl.Edge{edge(0, 1, x), edge(n, 2, y), edge(k, n, z)},
			}
			ring := odd
			ring.edges = []impl.Edge{edge(0, 1, x), edge(2, 1, y), edge(0, 2, z)}
			twice(t, fmt.Sprintf("lines of %08x %08x %d %d", a, b, n, k), func() string {
				return sayLined(odd, x, y, z, n, k) + sayLined(someLined(), x, y, z, n, k) + sayLined(ring, 0.5, 0.25, 1, 3, 2) + sayLined(someLined(), x, 0.5, 1, 3, 1)
			})
		}
	}
}

// TestListsOfLinesAreNotModified looks at the memory of lists, and at what comes behind their ends.
func TestListsOfLinesAreNotModified(t *testing.T) {
	d := someLined()
	var lines [3][]impl.Line
	var numbers [2][]float32
	var many [][]impl.Line
	var edges []impl.Edge
	behind := line(7, 7, 7, 3)
	d.lines, lines[0] = withRoom(d.lines, behind)
	d.others, lines[1] = withRoom(d.others, behind)
	d.many[0], lines[2] = withRoom(d.many[0], behind)
	d.many, many = withRoom(d.many, []impl.Line{behind})
	d.list, numbers[0] = withRoom(d.list, 80)
	d.catalog, numbers[1] = withRoom(d.catalog, 81)
	d.edges, edges = withRoom(d.edges, edge(9, 9, 9))
	tell := func() string { return fmt.Sprint(lines, many, numbers, edges) }
	before := tell()
	for n := range int64(12) {
		first := sayLined(d, -2, 0.5, 0.75, n, 1+n%4)
		if tell() != before {
			t.Fatalf("lists are modified: %s, and then %s", before, tell())
		}
		if again := sayLined(d, -2, 0.5, 0.75, n, 1+n%4); again != first {
			t.Errorf("%s, and then %s", first, again)
		}
	}
}

// TestLinesAreNew writes over all that functions return, and looks whether an argument or another result changes.
func TestLinesAreNew(t *testing.T) {
	d := someLined()
	first := sayLined(d, -2, 0.5, 0.75, 3, 2)
	lines, numbers, integers := overwriter(t, line(99, 99, 99, 99)), overwriter[float32](t, 99), overwriter[int64](t, 99)
	lines(impl.ShiftLines(d.lines, 1, 2))
	lines(impl.ShiftLines(d.lines, 0, 1))
	lines(impl.FitHeights(d.lines, d.list, -2, 0.5))
	numbers(impl.SpectrumOf(d.lines, 0, 1, 5))
	numbers(impl.SpectraShared(d.many, 0, 1, 5, 2))
	numbers(impl.BendOf(d.list))
	numbers(impl.EdgeLevels(3, d.edges))
	numbers(impl.DifferencesOf(d.list, d.catalog))
	numbers(impl.DifferencesOf(d.list, make([]float32, len(d.list))))
	integers(impl.PeaksOf(d.list, 0, 1))
	integers(impl.BentPeaks(d.list, -9))
	integers(impl.MatchLines(d.list, d.catalog, 1))
	if again := sayLined(d, -2, 0.5, 0.75, 3, 2); again != first {
		t.Errorf("results share memory: %s, and then %s", first, again)
	}
	if !reflect.DeepEqual(d, someLined()) {
		t.Errorf("arguments share memory with results: %v", d)
	}
}

func TestNilAndEmptyListsOfLinesAreOneValue(t *testing.T) {
	empty := lined{[]impl.Line{}, []impl.Line{}, [][]impl.Line{}, []float32{}, []float32{}, []impl.Edge{}}
	for n := int64(0); n < 4; n++ {
		if first, second := sayLined(lined{}, 1, 2, 3, n, 1), sayLined(empty, 1, 2, 3, n, 1); first != second {
			t.Errorf("nil gives %s, and what is empty gives %s", first, second)
		}
	}
	nilLists, emptyLists := someLined(), someLined()
	nilLists.many, emptyLists.many = [][]impl.Line{nil, twoLines, nil}, [][]impl.Line{{}, twoLines, {}}
	if first, second := sayLined(nilLists, -2, 0.5, 1, 3, 1), sayLined(emptyLists, -2, 0.5, 1, 3, 1); first != second {
		t.Errorf("nil lists give %s, and empty ones give %s", first, second)
	}
}
