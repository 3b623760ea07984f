package tests

import (
	"fmt"
	"math"
	"testing"

	"loop.example/g01403/impl"
)

// wrongLengths are neither 2 to 64 nor near to it.
func wrongLengths() []int64 {
	return []int64{math.MinInt64, -2, -1, 0, 1, 65, 66, 1 << 32, math.MaxInt64}
}

func TestLengthsOfScans(t *testing.T) {
	for _, n := range []int{0, 1, 2, 3, 63, 64, 65, 300} {
		scan, what, fine := repeatNumber(1, n), fmt.Sprintf(" of %d numbers", n), n >= 2 && n <= 64
		lines, ok := impl.ScanLines(scan)
		wantBool(t, "ScanLines"+what, ok, fine)
		mended, ok := impl.MendedLines(scan)
		wantBool(t, "MendedLines"+what, ok, fine)
		soft, ok := impl.SoftScan(scan, 0)
		wantBool(t, "SoftScan"+what, ok, fine)
		padded, ok := impl.PadScan(scan, 64)
		wantBool(t, "PadScan"+what, ok, fine)
		_, ok = impl.ScansShared([][]float32{scan}, 1)
		wantBool(t, "ScansShared"+what, ok, fine)
		_, ok = impl.ScansShared([][]float32{{1, 2}, scan}, 1)
		wantBool(t, "ScansShared behind another one"+what, ok, fine)
		if !fine {
			wantTold(t, []told{{"lists" + what, say(lines, mended, soft, padded), ""}})
			continue
		}
		if len(lines) != n/2+1 || len(mended) != n/2+1 || len(soft) != n || len(padded) != 64 {
			t.Errorf("lists%s have %d, %d, %d and %d", what, len(lines), len(mended), len(soft), len(padded))
		}
	}
	for _, n := range wrongLengths() {
		what := fmt.Sprintf(", n %d", n)
		wantFailing(t, []failing{
			{"ScanOf" + what, fails(impl.ScanOf([]float32{1}, []float32{1}, 1, n))},
			{"PadScan" + what, fails(impl.PadScan([]float32{1, 2}, n))},
			{"BackOfLines of none" + what, fails(impl.BackOfLines(nil, n))},
			{"BackOfLines of one" + what, fails(impl.BackOfLines([]complex64{1}, n))},
			{"BackOfLines of 33" + what, fails(impl.BackOfLines(make([]complex64, 33), n))},
			{"BackOfLines of 34" + what, fails(impl.BackOfLines(make([]complex64, 34), n))},
		})
	}
}

// TestCountsOfLinesOfScans has as many for an odd n as for the n before it, which is even.
func TestCountsOfLinesOfScans(t *testing.T) {
	for n := int64(2); n <= 64; n++ {
		for count := range 36 {
			lines := make([]complex64, count)
			for k := range lines {
				lines[k] = 2
			}
			scan, ok := impl.BackOfLines(lines, n)
			wantBool(t, fmt.Sprintf("BackOfLines of %d, n %d", count, n), ok, int64(count) == n/2+1)
			if ok && (int64(len(scan)) != n || scan[0] < 1.9 || scan[0] > 2.1) {
				t.Errorf("BackOfLines of %d, n %d: %v", count, n, scan)
			}
		}
	}
}

// TestLastLines are taken twice where n is odd, but once where it is even.
func TestLastLines(t *testing.T) {
	wantTold(t, []told{
		{"the last line of 2", say(impl.BackOfLines([]complex64{0, 3}, 2)), say([]float32{1.5, -1.5}, true)},
		{"the first line of 2", say(impl.BackOfLines([]complex64{3, 0}, 2)), say([]float32{1.5, 1.5}, true)},
		{"the first line of 3", say(impl.BackOfLines([]complex64{3, 0}, 3)), say([]float32{1, 1, 1}, true)},
		{"the last line of 4", say(impl.BackOfLines([]complex64{0, 0, 4}, 4)), say([]float32{1, -1, 1, -1}, true)},
		{"a line of 4", say(impl.BackOfLines([]complex64{0, 4, 0}, 4)), say([]float32{2, 0, -2, 0}, true)},
	})
	for n := int64(2); n <= 64; n++ {
		lines := make([]complex64, n/2+1)
		lines[n/2] = complex(float32(n), 0)
		scan, _ := impl.BackOfLines(lines, n)
		times := float32(1)
		if n%2 == 1 {
			times = 2
		}
		wantBits(t, fmt.Sprintf("the last line of %d at the place 0", n), scan[0], bitsOf(times))
	}
}

func TestScansThatAreNotFinite(t *testing.T) {
	lines := []complex64{1, 2, 3}
	for _, x := range notFinite() {
		what := " of " + say(x)
		for i := range 5 {
			odd := setAt(oddScan, i, x)
			wantFailing(t, []failing{
				{"ScanLines" + what, fails(impl.ScanLines(odd))},
				{"MendedLines" + what, fails(impl.MendedLines(odd))},
				{"PadScan" + what, fails(impl.PadScan(odd, 9))},
				{"SoftScan" + what, fails(impl.SoftScan(odd, 1))},
				{"ScansShared" + what, fails(impl.ScansShared([][]float32{evenScan, odd, evenScan}, 2))},
			})
		}
		for k := range lines {
			odd, odder := append([]complex64{}, lines...), append([]complex64{}, lines...)
			odd[k], odder[k] = complex(x, 0), complex(0, x)
			wantFailing(t, []failing{
				{"BackOfLines, real" + what, fails(impl.BackOfLines(odd, 5))},
				{"BackOfLines, imaginary" + what, fails(impl.BackOfLines(odder, 4))},
			})
		}
		for i := range 2 {
			odd := setAt([]float32{1, 2}, i, x)
			wantFailing(t, []failing{
				{"ScanOf, lines" + what, fails(impl.ScanOf(odd, []float32{1, 2}, 1, 3))},
				{"ScanOf, weights" + what, fails(impl.ScanOf([]float32{1, 2}, odd, 1, 3))},
				{"ScanOf without weights, lines" + what, fails(impl.ScanOf(odd, []float32{0, 0}, 0, 3))},
			})
		}
		wantFailing(t, []failing{{"ScanOf, step" + what, fails(impl.ScanOf([]float32{0}, []float32{0}, x, 3))}})
	}
	wantFailing(t, []failing{
		{"ScanOf of weights too great", fails(impl.ScanOf([]float32{1}, []float32{2e38}, 1, 2))},
		{"ScanOf of weights too great together", fails(impl.ScanOf([]float32{1, 1}, []float32{1e38, 1e38}, 1, 2))},
		{"ScanOf of infinite turns", fails(impl.ScanOf([]float32{1e20}, []float32{1}, 1e20, 2))},
		{"ScanOf of an infinite way", fails(impl.ScanOf([]float32{0}, []float32{1}, greatest, 3))},
		{"ScanLines of a sum too great", fails(impl.ScanLines([]float32{2e38, 2e38}))},
		{"ScanLines of a difference too great", fails(impl.ScanLines([]float32{2e38, -2e38}))},
		{"MendedLines of a sum too great", fails(impl.MendedLines([]float32{2e38, 2e38}))},
		{"MendedLines of phases too great", fails(impl.MendedLines([]float32{3e38, 0}))},
		{"BackOfLines of a line too great", fails(impl.BackOfLines([]complex64{0, 2e38}, 3))},
		{"BackOfLines of lines too great together", fails(impl.BackOfLines([]complex64{3e38, 3e38}, 2))},
		{"ScansShared of a sum too great", fails(impl.ScansShared([][]float32{setAt(repeatNumber(0, 64), 0, 3e37)}, 1))},
	})
	last, ok := impl.BackOfLines([]complex64{0, 2e38}, 2)
	wantBool(t, "BackOfLines of a great last line", ok && last[0] == 1e38, true)
}

// TestLinesAndWeightsOfScans tells how many there may be, 1 to 16.
func TestLinesAndWeightsOfScans(t *testing.T) {
	for _, lines := range []int{0, 1, 2, 15, 16, 17} {
		for _, weights := range []int{0, 1, 2, 15, 16, 17} {
			scan, ok := impl.ScanOf(repeatNumber(0, lines), repeatNumber(0.5, weights), 1, 2)
			wantBool(t, fmt.Sprintf("ScanOf of %d lines and %d weights", lines, weights), ok, lines == weights && lines >= 1 && lines <= 16)
			if ok {
				wantBits(t, "a scan of lines at 0", scan[1], bitsOf(float32(lines)))
			}
		}
	}
}

// TestScansOfOneLineHaveItsPeak: a scan that a line goes through k times is brightest in the line k of the scan.
func TestScansOfOneLineHaveItsPeak(t *testing.T) {
	for n := int64(5); n <= 64; n++ {
		for k := 1; int64(2*k) < n; k++ {
			scan, ok := impl.ScanOf([]float32{float32(k)}, []float32{1}, 1/float32(n), n)
			wantBool(t, "ScanOf", ok, true)
			lines, ok := impl.ScanLines(scan)
			wantBool(t, "ScanLines", ok, true)
			for i, l := range lines {
				want := 0.0
				switch i {
				case 0:
					want = float64(n)
				case k:
					want = float64(n) / 2
				}
				near(t, fmt.Sprintf("line %d of a scan of %d with %d", i, n, k), float64(impl.LongOf(l)), want, 1e-3)
			}
		}
	}
}

func TestScansThatArePadded(t *testing.T) {
	for _, scan := range [][]float32{{1, 2}, oddScan, evenScan, repeatNumber(3, 63), repeatNumber(3, 64)} {
		for n := int64(0); n <= 66; n++ {
			padded, ok := impl.PadScan(scan, n)
			what := fmt.Sprintf("PadScan of %d to %d", len(scan), n)
			if n < int64(len(scan)) || n > 64 {
				wantFailing(t, []failing{{what, fails(padded, ok)}})
				continue
			}
			want := append(append([]float32{}, scan...), make([]float32, int(n)-len(scan))...)
			wantBool(t, what, ok && sameNumbers(padded, want), true)
		}
	}
}

func TestKindsOfSoftScans(t *testing.T) {
	for _, kind := range []int64{math.MinInt64, -1, 3, 4, 1 << 32, math.MaxInt64} {
		wantFailing(t, []failing{{fmt.Sprintf("SoftScan of the kind %d", kind), fails(impl.SoftScan(oddScan, kind))}})
	}
	for n := 2; n <= 64; n++ {
		scan := repeatNumber(2, n)
		hard, _ := impl.SoftScan(scan, 0)
		wantBool(t, "a scan that does not end softly", sameNumbers(hard, scan), true)
		slope, _ := impl.SoftScan(scan, 1)
		bell, ok := impl.SoftScan(scan, 2)
		wantBool(t, "SoftScan", ok, true)
		for i := range scan {
			part := float64(i) / float64(n)
			near(t, "a slope", float64(slope[i]), 2*(1-part), 1e-6)
			near(t, "half a wave", float64(bell[i]), 1+math.Cos(math.Pi*part), 1e-6)
		}
	}
}

// TestLinesWithoutAPhase are mended by 1 where they and their neighbours make 0.
func TestLinesWithoutAPhase(t *testing.T) {
	wantTold(t, []told{
		{"MendedLines of two lines that make 0", say(impl.MendedLines([]float32{0, 1})), say([]float32{1, -1}, true)},
		{"MendedLines of two other lines that make 0", say(impl.MendedLines([]float32{0, -3})), say([]float32{-3, 3}, true)},
		{"MendedLines of nothing", say(impl.MendedLines([]float32{0, 0, 0})), say([]float32{0, 0}, true)},
	})
}

// TestMendedLinesTurnByTheirNeighbours holds mended lines against those that are told by the standard library.
func TestMendedLinesTurnByTheirNeighbours(t *testing.T) {
	w := &words{63}
	for n := 2; n <= 64; n++ {
		scan := anyScan(w, n)
		lines, _ := impl.ScanLines(scan)
		mended, ok := impl.MendedLines(scan)
		wantBool(t, "MendedLines", ok && len(mended) == len(lines), true)
		for k, l := range lines {
			a, b := float64(real(l)), float64(imag(l))
			for _, i := range []int{k - 1, k + 1} {
				if i >= 0 && i < len(lines) {
					a, b = a+float64(real(lines[i])), b+float64(imag(lines[i]))
				}
			}
			want := (float64(real(l))*a + float64(imag(l))*b) / math.Hypot(a, b)
			near(t, fmt.Sprintf("the mended line %d of %d", k, n), float64(mended[k]), want, 2e-5)
		}
	}
}

// TestWorkersOnScans makes the same with any number of them.
func TestWorkersOnScans(t *testing.T) {
	w := &words{64}
	for count := range 11 {
		scans := make([][]float32, count)
		sums := make([]float32, count)
		for i := range scans {
			scans[i] = anyScan(w, 2+w.below(63))
			mended, _ := impl.MendedLines(scans[i])
			sums[i], _ = impl.SumNumbers(mended)
		}
		for _, workers := range []int64{math.MinInt64, -1, 0, 1, 2, 3, 7, 8, 9, 1 << 32, math.MaxInt64} {
			got, ok := impl.ScansShared(scans, workers)
			what := fmt.Sprintf("%d scans by %d workers", count, workers)
			if count < 1 || count > 8 || workers < 1 || workers > 8 {
				wantFailing(t, []failing{{what, fails(got, ok)}})
				continue
			}
			wantTold(t, []told{{what, say(got, ok), say(sums, true)}})
		}
	}
	for workers := int64(1); workers <= 8; workers++ {
		for i := range 8 {
			scans := make([][]float32, 8)
			for k := range scans {
				scans[k] = evenScan
			}
			scans[i] = []float32{1}
			wantFailing(t, []failing{{"ScansShared of a scan that is none", fails(impl.ScansShared(scans, workers))}})
		}
	}
}
