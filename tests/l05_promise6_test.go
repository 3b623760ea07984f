package tests

import (
	"math"
	"slices"
	"testing"

	"loop.example/g01403/impl"
)

// words are numbers of 32 bits, one after another, as those of walks.
type words struct {
	state uint64
}

func (w *words) next() uint32 {
	w.state = w.state*6364136223846793005 + 1442695040888963407
	return uint32(w.state >> 32)
}

func (w *words) below(n int) int { return int(w.next() % uint32(n)) }

func (w *words) between(low, high float64) float32 { return between(w.next(), low, high) }

func shuffle[T any](w *words, list []T) {
	for i := range list {
		k := i + w.below(len(list)-i)
		list[i], list[k] = list[k], list[i]
	}
}

// apartLines are 1 to 6 lines, each next one about twice its width further, of any kinds, and some heights less than 0.
func apartLines(w *words) []impl.Line {
	var lines []impl.Line
	place := float32(0)
	for range 1 + w.below(6) {
		width := w.between(0.5, 1.5)
		place += 1.5*width + w.between(0, 1)
		lines = append(lines, line(place, w.between(-1, 3), width, int64(w.below(4))))
	}
	return lines
}

// withHeights returns lines with other heights.
func withHeights(lines []impl.Line, heightOf func(l impl.Line) float32) []impl.Line {
	other := slices.Clone(lines)
	for i, l := range lines {
		other[i].Height = heightOf(l)
	}
	return other
}

// TestFittedHeightsAreThoseOfTheLines is the first part of promise 6.
func TestFittedHeightsAreThoseOfTheLines(t *testing.T) {
	w := &words{6}
	for range 1000 {
		lines := apartLines(w)
		start, step := w.between(-2, -1), w.between(0.1875, 0.21875)
		list, ok := impl.SpectrumOf(lines, start, step, 128)
		wantBool(t, "SpectrumOf", ok, true)
		for _, heightOf := range []func(l impl.Line) float32{
			func(l impl.Line) float32 { return l.Height },
			func(impl.Line) float32 { return 0 },
			func(impl.Line) float32 { return w.between(0, 1) },
		} {
			fitted, ok := impl.FitHeights(withHeights(lines, heightOf), list, start, step)
			if !ok || len(fitted) != len(lines) {
				t.Fatalf("FitHeights of %s: got %v %v", say(lines), fitted, ok)
			}
			for i, l := range lines {
				near(t, "a fitted height", float64(fitted[i].Height), float64(l.Height), 1e-4)
				l.Height = fitted[i].Height
				wantTold(t, []told{{"all of a fitted line but its height", say(fitted[i]), say(l)}})
			}
			rest, ok := impl.RestOf(fitted, list, start, step)
			wantBool(t, "what fitted heights leave is nothing, nearly", ok && rest < 1e-7, true)
		}
	}
}

// TestWhatFitsLeaveIsUprightOnTheirLines fits lists that are no spectra of the lines.
func TestWhatFitsLeaveIsUprightOnTheirLines(t *testing.T) {
	w := &words{61}
	for range 500 {
		lines := apartLines(w)
		list, _ := impl.SpectrumOf(lines, -2, 0.1875, 128)
		for i := range list {
			list[i] += w.between(-2, 2)
		}
		fitted, ok := impl.FitHeights(lines, list, -2, 0.1875)
		wantBool(t, "FitHeights", ok, true)
		rest, _ := impl.RestOf(fitted, list, -2, 0.1875)
		for i := range lines {
			one, _ := impl.SpectrumOf(withHeights(lines[i:i+1], func(impl.Line) float32 { return 1 }), -2, 0.1875, 128)
			spectrum, _ := impl.SpectrumOf(fitted, -2, 0.1875, 128)
			along := 0.0
			for k, x := range list {
				along += float64(one[k]) * (float64(x) - float64(spectrum[k]))
			}
			near(t, "what a fit leaves, along a line", along, 0, 1e-3)
			for _, more := range []float32{-0.25, 0.25} {
				other := slices.Clone(fitted)
				other[i].Height += more
				worse, _ := impl.RestOf(other, list, -2, 0.1875)
				wantBool(t, "another height leaves more", worse > rest, true)
			}
		}
	}
}

// TestFittedLinesComeNearTheirSpectra begins with lines that are a little off.
func TestFittedLinesComeNearTheirSpectra(t *testing.T) {
	w := &words{62}
	for range 300 {
		kind := int64(w.below(3))
		want := line(w.between(-2, 2), w.between(1, 3), w.between(0.75, 1.75), kind)
		list, _ := impl.SpectrumOf([]impl.Line{want}, -5, 0.25, 41)
		l := line(want.Place+w.between(-0.2, 0.2), want.Height*w.between(0.8, 1.2), want.Width*w.between(0.8, 1.2), kind)
		before, _ := impl.RestOf([]impl.Line{l}, list, -5, 0.25)
		got, rest, ok := impl.FitLine(l, list, -5, 0.25, 16)
		wantBool(t, "FitLine", ok && rest <= before, true)
		near(t, "the place of a fitted line", float64(got.Place), float64(want.Place), 1e-3)
		near(t, "the height of a fitted line", float64(got.Height), float64(want.Height), 1e-3)
		near(t, "the width of a fitted line", float64(got.Width), float64(want.Width), 1e-3)
		left, _ := impl.RestOf([]impl.Line{got}, list, -5, 0.25)
		wantBits(t, "what a fitted line leaves", rest, bitsOf(left))
	}
}

// someTree returns levels, and edges in any order that lead to each of them in one way only.
func someTree(w *words) ([]float32, []impl.Edge) {
	levels, edges, names := make([]float32, 1+w.below(12)), []impl.Edge{}, []int{0}
	for i := 1; i < len(levels); i++ {
		levels[i] = float32(w.below(4000)-2000) / 8
		names = append(names, i)
	}
	shuffle(w, names[1:])
	for i := 1; i < len(levels); i++ {
		edges = append(edges, edgeBetween(w, levels, names[i], names[w.below(i)]))
	}
	shuffle(w, edges)
	return levels, edges
}

// edgeBetween leads from either level to the other one.
func edgeBetween(w *words, levels []float32, from, to int) impl.Edge {
	if w.below(2) == 0 {
		from, to = to, from
	}
	return edge(int64(from), int64(to), levels[to]-levels[from])
}

// TestLevelsAreToldByEdges is the second part of promise 6.
func TestLevelsAreToldByEdges(t *testing.T) {
	w := &words{63}
	for range 3000 {
		levels, edges := someTree(w)
		n := int64(len(levels))
		wantBool(t, "AreEdges", impl.AreEdges(n, edges), true)
		wantTold(t, []told{
			{"EdgeLevels of a tree", say(impl.EdgeLevels(n, edges)), say(levels, true)},
			{"WorstRing of a tree", say(impl.WorstRing(n, edges)), say(float32(0), true)},
		})
		if n < 2 {
			continue
		}
		for range w.below(20) {
			from := w.below(int(n))
			to := (from + 1 + w.below(int(n)-1)) % int(n)
			edges = append(edges, edgeBetween(w, levels, from, to))
		}
		shuffle(w, edges)
		wantTold(t, []told{
			{"EdgeLevels of rings that close", say(impl.EdgeLevels(n, edges)), say(levels, true)},
			{"WorstRing of rings that close", say(impl.WorstRing(n, edges)), say(float32(0), true)},
		})
	}
}

// TestRingsAreClosedAsFarAsTold is the third part of promise 6: edges that tell no level may be off.
func TestRingsAreClosedAsFarAsTold(t *testing.T) {
	w := &words{64}
	for range 3000 {
		levels, edges := someTree(w)
		n, worst := int64(len(levels)), 0.0
		for range w.below(20) {
			if n < 2 {
				break
			}
			from := w.below(int(n))
			e := edgeBetween(w, levels, from, (from+1+w.below(int(n)-1))%int(n))
			off := float64(w.below(101)-50) / 4
			e.Place += float32(off)
			edges, worst = append(edges, e), max(worst, math.Abs(off))
		}
		wantTold(t, []told{
			{"EdgeLevels of rings that do not close", say(impl.EdgeLevels(n, edges)), say(levels, true)},
			{"WorstRing of rings that do not close", say(impl.WorstRing(n, edges)), say(float32(worst), true)},
		})
	}
}

// TestRingsOfAnyNumbersCloseNearly has edges whose places are rounded.
func TestRingsOfAnyNumbersCloseNearly(t *testing.T) {
	w := &words{65}
	for range 1000 {
		levels, edges := someTree(w)
		for i := range levels[1:] {
			levels[i+1] = w.between(-300, 300)
		}
		for i, e := range edges {
			edges[i].Place = levels[e.To] - levels[e.From]
		}
		for range 10 {
			if n := len(levels); n > 1 {
				from := w.below(n)
				edges = append(edges, edgeBetween(w, levels, from, (from+1+w.below(n-1))%n))
			}
		}
		got, ok := impl.EdgeLevels(int64(len(levels)), edges)
		wantBool(t, "EdgeLevels", ok, true)
		nearNumbers(t, "levels of edges", got, levels, 1e-3)
		worst, ok := impl.WorstRing(int64(len(levels)), edges)
		wantBool(t, "rings close, nearly", ok && worst < 1e-3, true)
	}
}
