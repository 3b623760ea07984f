package tests

import (
	"fmt"
	"math"
	"reflect"
	"testing"

	"loop.example/g01403/impl"
)

// scanned are arguments of functions of chapter 6 that are lists.
type scanned struct {
	places, waves, curve []float32
	list, kernel         []float32
	lines                []complex64
	scans                [][]float32
}

// sayScanned says what every function of chapter 6 makes of its arguments.
func sayScanned(d scanned, x, y, z float32, n, k int64) string {
	return say(impl.LampLine(d.places, d.waves)) + say(impl.LampCurve(d.places, d.waves)) + say(impl.WaveAt(d.curve, x)) + say(impl.WaveAt(d.places, y)) +
		say(impl.PlaceOf(d.curve, x, y, z, n)) + say(impl.PlaceOf(d.curve, y, -4, 4, k)) + say(impl.LampRests(d.curve, d.places, d.waves)) +
		say(impl.GratingOut(x, y, z, n)) + say(impl.GratingOrders(x, y, z)) + say(impl.FreeRange(x, n)) + say(impl.ManySlits(x, n)) +
		say(impl.ScanOf(d.places, d.waves, x, n)) + say(impl.ScanLines(d.list)) + say(impl.BackOfLines(d.lines, n)) + say(impl.BackOfLines(d.lines, k)) +
		say(impl.PadScan(d.list, n)) + say(impl.PadScan(d.list, k)) + say(impl.SoftScan(d.list, n)) + say(impl.SoftScan(d.list, k)) + say(impl.MendedLines(d.list)) +
		say(impl.NoiseRatio(d.list, n, k)) + say(impl.NoiseRatio(d.waves, 0, n)) + say(impl.CosmicMarks(d.list, x)) + say(impl.RemoveMarks(d.list, x)) +
		say(impl.StitchLists(d.list, d.waves, n)) + say(impl.StitchLists(d.waves, d.list, k)) + say(impl.SpreadBy(d.list, d.kernel)) + say(impl.SharpenBy(d.waves, d.kernel, n)) +
		say(impl.FilmShares(d.places, d.waves, x, y, z)) + say(impl.FilmShares(d.kernel, d.kernel, x, y, z)) + say(impl.DepthOf(d.waves, d.places)) + say(impl.DepthOf(d.kernel, d.kernel)) +
		say(impl.GrowthWidth(x, y, n)) + say(impl.ScansShared(d.scans, n)) + say(impl.ScansShared(d.scans, k))
}

// someScanned returns arguments that are as they must be.
func someScanned() scanned {
	return scanned{
		[]float32{0.5, 1, 2.5}, []float32{4, 5, 3}, []float32{1, -2, 0.5},
		append([]float32{}, spikes...), append([]float32{}, softKernel...), []complex64{4, 1 - 2i, 0.5i},
		[][]float32{append([]float32{}, oddScan...), append([]float32{}, evenScan...), {1, 2}},
	}
}

// TestSpectraReturn calls every function of chapter 6 with all kinds of numbers, twice.
func TestSpectraReturn(t *testing.T) {
	integers := []int64{math.MinInt64, -101, -100, -1, 0, 1, 2, 3, 4, 5, 8, 9, 31, 32, 33, 64, 65, 100, 101, math.MaxInt64}
	bits := strangeBits()
	for i, a := range bits {
		for j, b := range bits {
			x, y, z := num(a), num(b), num(bits[(3*i+j)%len(bits)])
			n, k := integers[(i*7+j)%len(integers)], integers[(i+5*j)%len(integers)]
			odd := scanned{
				[]float32{x, 1, y}, []float32{1, z, 2}, []float32{y, z}, []float32{x, y, 1, z}, []float32{1, x, y},
				[]complex64{complex(x, y), complex(1, z), 2}, [][]float32{{x, 1, y}, {z, 2}},
			}
			twice(t, fmt.Sprintf("spectra of %08x %08x %d %d", a, b, n, k), func() string {
				return sayScanned(odd, x, y, z, n, k) + sayScanned(someScanned(), x, y, z, n, k) + sayScanned(odd, 0.5, 0.25, 1, 3, 4) + sayScanned(someScanned(), x, 0.5, 1, 2, 5)
			})
		}
	}
}

// TestListsOfSpectraAreNotModified looks at the memory of lists, and at what comes behind their ends.
func TestListsOfSpectraAreNotModified(t *testing.T) {
	d := someScanned()
	var numbers [8][]float32
	var scans [][]float32
	var lines []complex64
	d.places, numbers[0] = withRoom(d.places, 80)
	d.waves, numbers[1] = withRoom(d.waves, 81)
	d.curve, numbers[2] = withRoom(d.curve, 82)
	d.list, numbers[3] = withRoom(d.list, 83)
	d.kernel, numbers[4] = withRoom(d.kernel, 84)
	for i := range d.scans {
		d.scans[i], numbers[5+i] = withRoom(d.scans[i], 85)
	}
	d.scans, scans = withRoom(d.scans, []float32{86})
	d.lines, lines = withRoom(d.lines, 87i)
	tell := func() string { return fmt.Sprint(numbers, scans, lines) }
	before := tell()
	for n := range int64(14) {
		first := sayScanned(d, 0.25, 1.5, 2, n, 1+n%5)
		if tell() != before {
			t.Fatalf("lists are modified: %s, and then %s", before, tell())
		}
		if again := sayScanned(d, 0.25, 1.5, 2, n, 1+n%5); again != first {
			t.Errorf("%s, and then %s", first, again)
		}
	}
}

// TestSpectraAreNew writes over all that functions return, and looks whether an argument or another result changes.
func TestSpectraAreNew(t *testing.T) {
	d := someScanned()
	first := sayScanned(d, 0.25, 1.5, 2, 3, 4)
	numbers, integers, lines := overwriter[float32](t, 99), overwriter[int64](t, 99), overwriter[complex64](t, 99)
	rests := func(list []float32, _ float32, ok bool) { numbers(list, ok) }
	numbers(impl.LampCurve(d.places, d.waves))
	rests(impl.LampRests(d.curve, d.places, d.waves))
	rests(impl.LampRests([]float32{0}, d.places, d.waves))
	integers(impl.GratingOrders(1, 1, 0))
	numbers(impl.ScanOf(d.places, d.waves, 1, 4))
	lines(impl.ScanLines(d.list))
	numbers(impl.BackOfLines(d.lines, 4))
	numbers(impl.PadScan(d.list, int64(len(d.list))))
	numbers(impl.PadScan(d.list, 20))
	numbers(impl.SoftScan(d.list, 0))
	numbers(impl.SoftScan(d.list, 2))
	numbers(impl.MendedLines(d.list))
	integers(impl.CosmicMarks(d.list, 1))
	numbers(impl.RemoveMarks(d.list, 1))
	numbers(impl.RemoveMarks(d.list, 100))
	for over := range int64(3) {
		numbers(impl.StitchLists(d.list, d.waves, over+1))
		numbers(impl.StitchLists(d.waves, d.list, over+1))
	}
	numbers(impl.SpreadBy(d.list, d.kernel))
	numbers(impl.SpreadBy(d.list, []float32{1}))
	numbers(impl.SharpenBy(d.waves, d.kernel, 0))
	numbers(impl.SharpenBy(d.waves, d.kernel, 3))
	numbers(impl.DepthOf(d.waves, d.places))
	numbers(impl.ScansShared(d.scans, 2))
	if again := sayScanned(d, 0.25, 1.5, 2, 3, 4); again != first {
		t.Errorf("results share memory: %s, and then %s", first, again)
	}
	if !reflect.DeepEqual(d, someScanned()) {
		t.Errorf("arguments share memory with results: %v", d)
	}
}

func TestNilAndEmptyListsOfSpectraAreOneValue(t *testing.T) {
	empty := scanned{[]float32{}, []float32{}, []float32{}, []float32{}, []float32{}, []complex64{}, [][]float32{}}
	for n := int64(0); n < 4; n++ {
		if first, second := sayScanned(scanned{}, 1, 2, 3, n, 1), sayScanned(empty, 1, 2, 3, n, 1); first != second {
			t.Errorf("nil gives %s, and what is empty gives %s", first, second)
		}
	}
	wantTold(t, []told{{"films of none", say(impl.FilmShares([]float32{}, nil, 1, 3, 1)), say(impl.FilmShares(nil, []float32{}, 1, 3, 1))}})
}
