package tests

import (
	"testing"

	"loop.example/g01403/impl"
)

const lineSteps = 2000

// someLine is neither far away nor very narrow or wide.
func someLine(a, b, c uint32) impl.Line {
	return line(between(a, -4, 4), mild(b), between(c, 0.25, 4), int64(a%4))
}

// someNumbers are few enough that some are often equal; one of four lists has any others.
func someNumbers(n int, r [4]uint32) []float32 {
	list := make([]float32, n)
	for i := range list {
		word := r[i%4]*uint32(2*i+1) + uint32(i)
		list[i] = float32(word>>27) / 8
		if r[0]%4 == 0 {
			list[i] = between(word, -1, 4)
		}
	}
	return list
}

func shapeBits(r [4]uint32) []int64 {
	l, m := someLine(r[0], r[1], r[2]), someLine(r[3], r[2], r[1])
	both := []impl.Line{l, m}
	list := append(bitsOfAll(impl.LineAt(l, between(r[3]*5, -6, 6))), bitsOfAll(impl.LineAt(m, mild(r[0]*5)))...)
	list = append(list, bitsOfAll(impl.LinesAt(both, between(r[1]*5, -6, 6)))...)
	list = append(append(list, bitsOfAll(impl.AreaOf(l))...), bitsOfAll(impl.BlendLines(l, m))...)
	return append(list, bitsOfAll(impl.ShiftLines(both, mild(r[2]*5), mild(r[3]*3)))...)
}

func spectrumBits(r [4]uint32) []int64 {
	l, m := someLine(r[0], r[1], r[2]), someLine(r[3], r[2], r[1])
	start, step := between(r[0]*3, -5, 0), between(r[1]*3, 0.1, 1)
	list := bitsOfAll(impl.SpectrumOf([]impl.Line{l, m, l}, start, step, 1+int64(r[2]%9)))
	return append(list, bitsOfAll(impl.SpectraShared([][]impl.Line{{l}, {l, m}, nil}, start, step, 1+int64(r[3]%9), 3))...)
}

func peakBits(r [4]uint32) []int64 {
	some := someNumbers(3+int(r[1]%12), r)
	list := append(bitsOfAll(impl.PeaksOf(some, between(r[2], 0, 3), 1+int64(r[3]%7))), bitsOfAll(impl.BendOf(some))...)
	list = append(list, bitsOfAll(impl.BentPeaks(some, between(r[3], -2, 2)))...)
	for i := range int64(len(some)) {
		list = append(append(list, bitsOfAll(impl.PeakPlace(some, i))...), bitsOfAll(impl.HalfWidth(some, i))...)
	}
	return list
}

// someSpectrum is that of lines, and a little more at each place.
func someSpectrum(lines []impl.Line, start, step float32, n int, r [4]uint32) []float32 {
	list, _ := impl.SpectrumOf(lines, start, step, int64(n))
	for i := range list {
		list[i] += between(r[i%4]*uint32(2*i+3), -0.0625, 0.0625)
	}
	return list
}

func heightBits(r [4]uint32) []int64 {
	lines := []impl.Line{someLine(r[0], r[1]&0x80ffffff, r[2]), someLine(r[3], r[2]&0x80ffffff, r[1]), someLine(r[1], r[0]&0x80ffffff, r[3])}[:1+r[0]>>8%3]
	start, step := between(r[0]*3, -5, -3), between(r[1]*3, 0.25, 1)
	list := someSpectrum(lines, start, step, 2+int(r[2]%14), r)
	fitted, ok := impl.FitHeights(lines[:1+r[0]>>16%uint32(len(lines))], list, start, step)
	bits := append(bitsOfAll(fitted, ok), bitsOfAll(impl.RestOf(lines[:1], list, start, step))...)
	bits = append(bits, bitsOfAll(impl.RestOf(fitted, list, start, step))...)
	many := [][]impl.Line{lines[:1], nil, lines, fitted}
	return append(bits, bitsOfAll(impl.CountLines(many, list, start, step))...)
}

func fitBits(r [4]uint32) []int64 {
	l := line(between(r[0], -2, 2), between(r[1], 0.5, 3), between(r[2], 0.5, 2), int64(r[3]%4))
	start, step := between(r[0]*3, -4, -3), between(r[1]*3, 0.25, 0.75)
	list := someSpectrum([]impl.Line{l}, start, step, 3+int(r[2]%14), r)
	l.Place += between(r[3], -0.5, 0.5)
	l.Height *= between(r[2]*3, 0.5, 2)
	l.Width *= between(r[3]*3, 0.5, 2)
	return bitsOfAll(impl.FitLine(l, list, start, step, 1+int64(r[3]>>8%16)))
}

// someEdges lead from or to each level, but 0, and then between any two; they are in any order.
func someEdges(levels int64, r [4]uint32) []impl.Edge {
	var edges []impl.Edge
	for i := range levels + int64(r[1]%4) - 1 {
		word := r[i%4]*uint32(2*i+1) + uint32(i)
		from, to := int64(word>>4)%(i+1), i+1
		if to >= levels {
			from, to = int64(word>>8)%(levels-1), levels-1
		}
		if word%2 == 1 {
			from, to = to, from
		}
		edges = append(edges, edge(from, to, mild(word*7)))
	}
	for i := range edges {
		j := int(r[3]*uint32(2*i+1)>>5) % len(edges)
		edges[i], edges[j] = edges[j], edges[i]
	}
	return edges
}

func edgeBits(r [4]uint32) []int64 {
	levels := 2 + int64(r[0]%11)
	edges := someEdges(levels, r)
	list := append(bitsOfAll(impl.EdgeLevels(levels, edges)), bitsOfAll(impl.WorstRing(levels, edges))...)
	fewer := edges[:len(edges)-1]
	return append(append(list, bitsOfAll(impl.EdgeLevels(levels, fewer))...), bitsOfAll(impl.WorstRing(levels, fewer))...)
}

func matchBits(r [4]uint32) []int64 {
	places, catalog := someNumbers(int(r[1]%12), r), someNumbers(int(r[2]%8), [4]uint32{r[3], r[2], r[0], r[1]})
	list := bitsOfAll(impl.MatchLines(places, catalog, float32(r[3]%16)/8))
	rungs := []float32{mild(r[0]), mild(r[1]), mild(r[2]), mild(r[3])}
	list = append(append(list, bitsOfAll(impl.LadderFit(rungs))...), bitsOfAll(impl.LadderNext(rungs))...)
	list = append(list, bitsOfAll(impl.DifferencesOf(rungs, someNumbers(4, r)))...)
	return append(list, bitsOfAll(impl.CriterionOf(mildPositive(r[1]*3), 1+int64(r[2]%128), int64(r[3])%(1+int64(r[2]%128))))...)
}

// TestWalksOfLines holds folded results against those of another program, as TestWalks does.
func TestWalksOfLines(t *testing.T) {
	wantWalks(t, lineSteps, []walkTo{
		{"LineAt, LinesAt, AreaOf, BlendLines and ShiftLines", 81, shapeBits, 0xb126abb08ca1844a},
		{"SpectrumOf and SpectraShared", 82, spectrumBits, 0x58d69b12cd42d24f},
		{"PeaksOf, BendOf, BentPeaks, PeakPlace and HalfWidth", 83, peakBits, 0xf87b14fc8348af71},
		{"FitHeights, RestOf and CountLines", 84, heightBits, 0x6cd95050a61ea414},
		{"FitLine", 85, fitBits, 0xb24da432dd0752c3},
		{"EdgeLevels and WorstRing", 86, edgeBits, 0xc49b35247ac03c35},
		{"MatchLines, LadderFit, LadderNext, DifferencesOf and CriterionOf", 87, matchBits, 0x25c926d10cb53e44},
	})
}
