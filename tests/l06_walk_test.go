package tests

import (
	"testing"

	"loop.example/g01403/impl"
)

const spectraSteps = 1500

// evenly returns n numbers from low to high.
func evenly(n int, low, high float64, r [4]uint32) []float32 {
	list := make([]float32, n)
	for i := range list {
		list[i] = between(r[i%4]*uint32(2*i+1)+uint32(i), low, high)
	}
	return list
}

// swapped returns the words in another order, so that lists of them are other ones.
func swapped(r [4]uint32) [4]uint32 { return [4]uint32{r[2], r[3] * 3, r[1] * 5, r[0] * 7} }

func calibrationBits(r [4]uint32) []int64 {
	n := 2 + int(r[0]%15)
	places, waves := evenly(n, -3, 5, r), evenly(n, 1, 9, swapped(r))
	curve, _ := impl.LampCurve(places, waves)
	list := append(bitsOfAll(impl.LampLine(places, waves)), bitsOfAll(impl.LampCurve(places, waves))...)
	list = append(list, bitsOfAll(impl.LampRests(curve, places, waves))...)
	curve = evenly(1+int(r[1]%3), -2, 2, r)
	low, high := between(r[2], -3, 0), between(r[3], 0, 3)
	list = append(append(list, bitsOfAll(impl.WaveAt(curve, low))...), bitsOfAll(impl.WaveAt(curve, mild(r[0])))...)
	return append(list, bitsOfAll(impl.PlaceOf(curve, between(r[0], -2, 2), low, high, 1+int64(r[1]%32)))...)
}

func gratingBits(r [4]uint32) []int64 {
	wave, gap, sine := between(r[0], 0.0625, 1), between(r[1], 0.0625, 3), between(r[2], -1.5, 1.5)
	list := append(bitsOfAll(impl.GratingOut(wave, gap, sine, int64(r[3]%9)-4)), bitsOfAll(impl.GratingOrders(wave, gap, sine))...)
	list = append(list, bitsOfAll(impl.FreeRange(mild(r[3]), 1+int64(r[0]%100)))...)
	list = append(list, bitsOfAll(impl.ManySlits(mild(r[1]), 1+int64(r[2]%64)))...)
	return append(list, bitsOfAll(impl.ManySlits(between(r[3], -3, 3), 1+int64(r[1]%9)))...)
}

func scanBits(r [4]uint32) []int64 {
	lines, weights := evenly(1+int(r[0]%4), -3, 3, r), evenly(1+int(r[0]%4), 0, 2, swapped(r))
	scan, ok := impl.ScanOf(lines, weights, between(r[1], -1, 1), 2+int64(r[2]%12))
	list := append(bitsOfAll(scan, ok), bitsOfAll(impl.ScanLines(scan))...)
	some := make([]complex64, 2+r[3]%5)
	for k := range some {
		some[k] = complex(mild(r[k%4]*uint32(2*k+1)), mild(r[(k+1)%4]*uint32(2*k+3)))
	}
	even := int64(2*len(some) - 2)
	return append(append(list, bitsOfAll(impl.BackOfLines(some, even))...), bitsOfAll(impl.BackOfLines(some, even+1))...)
}

func mendedBits(r [4]uint32) []int64 {
	scan, other := evenly(2+int(r[0]%12), -2, 3, r), evenly(2+int(r[1]%7), -1, 2, swapped(r))
	list := append(bitsOfAll(impl.PadScan(scan, 13+int64(r[2]%4))), bitsOfAll(impl.SoftScan(scan, int64(r[3]%3)))...)
	list = append(list, bitsOfAll(impl.MendedLines(scan))...)
	return append(list, bitsOfAll(impl.ScansShared([][]float32{other, scan, other}, 1+int64(r[3]%8)))...)
}

func markBits(r [4]uint32) []int64 {
	some, other := someNumbers(3+int(r[1]%20), r), someNumbers(3+int(r[2]%12), swapped(r))
	to := 1 + int64(r[3])%int64(len(some))
	list := append(bitsOfAll(impl.NoiseRatio(some, int64(r[0])%to, to)), bitsOfAll(impl.CosmicMarks(some, float32(r[3]%16)/8))...)
	list = append(list, bitsOfAll(impl.RemoveMarks(some, float32(r[3]%16)/8))...)
	return append(list, bitsOfAll(impl.StitchLists(some, other, 1+int64(r[0]>>8%4)))...)
}

func sharpBits(r [4]uint32) []int64 {
	bright, kernel := evenly(1+int(r[0]%9), 0.0625, 4, r), evenly(1+2*int(r[1]%3), 0, 1, swapped(r))
	list := append(bitsOfAll(impl.SpreadBy(bright, kernel)), bitsOfAll(impl.SharpenBy(bright, kernel, int64(r[2]%5)))...)
	return append(list, bitsOfAll(impl.SpreadBy(evenly(7, -3, 3, r), kernel))...)
}

func filmBits(r [4]uint32) []int64 {
	index, depth := evenly(int(r[0]%9), 1, 3, r), evenly(int(r[0]%9), 0.03125, 0.5, swapped(r))
	list := bitsOfAll(impl.FilmShares(index, depth, between(r[1], 1, 2), between(r[2], 1, 4), between(r[3], 0.25, 1)))
	list = append(list, bitsOfAll(impl.DepthOf([]float32{mildPositive(r[0]), mildPositive(r[1])}, []float32{mildPositive(r[2]), mildPositive(r[3])}))...)
	return append(list, bitsOfAll(impl.GrowthWidth(mildPositive(r[1]*3), mildPositive(r[2]*3), 2+int64(r[3]%63)))...)
}

// TestWalksOfSpectra holds folded results against those of another program, as TestWalks does.
func TestWalksOfSpectra(t *testing.T) {
	wantWalks(t, spectraSteps, []walkTo{
		{"LampLine, LampCurve, LampRests, WaveAt and PlaceOf", 91, calibrationBits, 0xb98a2f21d8abcf07},
		{"GratingOut, GratingOrders, FreeRange and ManySlits", 92, gratingBits, 0x4e12c875143bfb48},
		{"ScanOf, ScanLines and BackOfLines", 93, scanBits, 0xb551229c6214a9af},
		{"PadScan, SoftScan, MendedLines and ScansShared", 94, mendedBits, 0x10d7e277c1e9c95b},
		{"NoiseRatio, CosmicMarks, RemoveMarks and StitchLists", 95, markBits, 0xc30329e20f0347c4},
		{"SpreadBy and SharpenBy", 96, sharpBits, 0xecbd7f48fed7dba0},
		{"FilmShares, DepthOf and GrowthWidth", 97, filmBits, 0x99c23baff49ea824},
	})
}
