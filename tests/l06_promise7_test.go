package tests

import (
	"fmt"
	"math"
	"math/cmplx"
	"testing"

	"loop.example/g01403/impl"
)

// anyScan has n numbers from -2 to 2.
func anyScan(w *words, n int) []float32 {
	scan := make([]float32, n)
	for i := range scan {
		scan[i] = w.between(-2, 2)
	}
	return scan
}

// TestScansLeadBackFromTheirLines is the first part of promise 7, for scans of all lengths, even and odd.
func TestScansLeadBackFromTheirLines(t *testing.T) {
	w := &words{71}
	for n := 2; n <= 64; n++ {
		scans := [][]float32{repeatNumber(1, n), repeatNumber(0, n), zigzag(n)}
		for range 10 {
			scans = append(scans, anyScan(w, n))
		}
		for i := range n {
			scans = append(scans, setAt(repeatNumber(0, n), i, 1))
		}
		for _, scan := range scans {
			lines, ok := impl.ScanLines(scan)
			wantBool(t, "ScanLines", ok && len(lines) == n/2+1, true)
			back, ok := impl.BackOfLines(lines, int64(n))
			wantBool(t, "BackOfLines", ok, true)
			nearNumbers(t, fmt.Sprintf("a scan of %d, led back", n), back, scan, 4e-6)
		}
	}
}

// TestLinesLeadBackFromTheirScans goes the other way; the first line, and that of half of n, have a real part only.
func TestLinesLeadBackFromTheirScans(t *testing.T) {
	w := &words{72}
	for n := 2; n <= 64; n++ {
		for range 10 {
			lines := make([]complex64, n/2+1)
			for k := range lines {
				lines[k] = complex(w.between(-2, 2), w.between(-2, 2))
				if k == 0 || 2*k == n {
					lines[k] = complex(real(lines[k]), 0)
				}
			}
			scan, ok := impl.BackOfLines(lines, int64(n))
			wantBool(t, "BackOfLines", ok && len(scan) == n, true)
			again, ok := impl.ScanLines(scan)
			wantBool(t, "ScanLines", ok, true)
			nearComplexes(t, fmt.Sprintf("lines of %d, led back", n), again, lines, 2e-5)
		}
	}
}

// TestLinesAreSumsOfTurnedNumbers holds lines against sums that are told by the standard library.
func TestLinesAreSumsOfTurnedNumbers(t *testing.T) {
	w := &words{73}
	for n := 2; n <= 64; n++ {
		scan := anyScan(w, n)
		want := make([]complex64, n/2+1)
		for k := range want {
			sum := complex128(0)
			for i, x := range scan {
				sum += complex(float64(x), 0) * cmplx.Rect(1, -2*math.Pi*float64(k*i)/float64(n))
			}
			want[k] = complex64(sum)
		}
		lines, _ := impl.ScanLines(scan)
		nearComplexes(t, fmt.Sprintf("lines of %d", n), lines, want, 2e-5)
	}
}

// TestMendedLinesOfOneBrightPlaceAreLong: where all lines have nearly the same phase, mending leaves how long they are.
func TestMendedLinesOfOneBrightPlaceAreLong(t *testing.T) {
	for _, n := range []int{2, 3, 8, 9, 33, 64} {
		mended, ok := impl.MendedLines(setAt(repeatNumber(0, n), 0, 3))
		wantBool(t, "MendedLines", ok, true)
		nearNumbers(t, "mended lines of a number at the place 0", mended, repeatNumber(3, n/2+1), 1e-5)
	}
}

// TestFilmsKeepWhatComes is the second part of promise 7.
func TestFilmsKeepWhatComes(t *testing.T) {
	w := &words{74}
	for films := range 9 {
		for range 400 {
			index, depth := make([]float32, films), make([]float32, films)
			for i := range index {
				index[i], depth[i] = w.between(1, 3), w.between(0.03125, 1)
			}
			first, last, wave := w.between(1, 2), w.between(1, 4), w.between(0.25, 1)
			back, through, ok := impl.FilmShares(index, depth, first, last, wave)
			wantBool(t, "FilmShares", ok, true)
			near(t, fmt.Sprintf("what %d films throw back and let through", films), float64(back)+float64(through), 1, 1e-5)
			wantBool(t, "what films throw back is at least nothing", back >= 0 && through > 0, true)
			turnFilms(t, index, depth, first, last, wave, through)
		}
	}
}

// turnFilms looks whether as much goes through films from the other side.
func turnFilms(t *testing.T, index, depth []float32, first, last, wave, through float32) {
	t.Helper()
	n := len(index)
	turned, deep := make([]float32, n), make([]float32, n)
	for i := range index {
		turned[n-1-i], deep[n-1-i] = index[i], depth[i]
	}
	_, other, ok := impl.FilmShares(turned, deep, last, first, wave)
	wantBool(t, "FilmShares of turned films", ok, true)
	near(t, "what turned films let through", float64(other), float64(through), 2e-5)
}

// TestFilmsAgreeWithOtherMatrices holds films against two by two matrices in 64-bit numbers.
func TestFilmsAgreeWithOtherMatrices(t *testing.T) {
	w := &words{75}
	for range 500 {
		index, depth := make([]float32, 1+w.below(8)), make([]float32, 8)
		b, c := complex128(1), complex128(0)
		first, last, wave := w.between(1, 2), w.between(1, 4), w.between(0.25, 1)
		c = complex(float64(last), 0)
		for i := len(index) - 1; i >= 0; i-- {
			index[i], depth[i] = w.between(1, 3), w.between(0.03125, 1)
			n, angle := float64(index[i]), 2*math.Pi*float64(index[i])*float64(depth[i])/float64(wave)
			cos, sin := complex(math.Cos(angle), 0), complex(0, math.Sin(angle))
			b, c = cos*b+sin*c/complex(n, 0), cos*c+sin*complex(n, 0)*b
		}
		u := complex(float64(first), 0) * b
		want := cmplx.Abs((u - c) / (u + c))
		back, _, ok := impl.FilmShares(index, depth[:len(index)], first, last, wave)
		wantBool(t, "FilmShares", ok, true)
		near(t, "what films throw back", float64(back), want*want, 1e-4)
	}
}
