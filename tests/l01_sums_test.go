package tests

import (
	"math"
	"testing"

	"loop.example/g01403/impl"
)

func TestSumNumbers(t *testing.T) {
	cases := []struct {
		what string
		list []float32
		want uint32
	}{
		{"nil", nil, zeroBits},
		{"empty", []float32{}, zeroBits},
		{"-0 behind +0", []float32{num(minusZeroBits)}, zeroBits},
		{"1, 2, 3.5", []float32{1, 2, 3.5}, 0x40d00000},
		{"rounded each time, to even", []float32{16777216, 1, 1}, 0x4b800000},
		{"from left to right", []float32{1, 1, 16777216}, 0x4b800001},
		{"subnormal", []float32{num(leastBits), num(leastBits)}, 2},
		{"beyond", []float32{3e38, 3e38, -3e38}, infinityBits},
		{"infinities", []float32{num(infinityBits), num(minusInfinity)}, notANumberBits},
		{"a not-a-number", []float32{1, num(otherNotANumber), 1}, notANumberBits},
		{"as many as there may be", repeatNumber(1, 256), 0x43800000},
	}
	for _, c := range cases {
		got, ok := impl.SumNumbers(c.list)
		wantSum(t, "SumNumbers, "+c.what, got, ok, c.want)
	}
	got, ok := impl.SumNumbers(repeatNumber(1, 257))
	wantFailure(t, "SumNumbers, one too many", got, ok)
}

func TestDotNumbers(t *testing.T) {
	near, double := float32(1+0x1p-12), float32(1+0x1p-11)
	cases := []struct {
		what string
		a, b []float32
		want uint32
	}{
		{"nil and empty", nil, []float32{}, zeroBits},
		{"1, 2 and 3, 4", []float32{1, 2}, []float32{3, 4}, 0x41300000},
		{"-0", []float32{-1}, []float32{0}, zeroBits},
		{"products are rounded", []float32{near, -1}, []float32{near, double}, zeroBits},
		{"products are rounded, the other way", []float32{-1, near}, []float32{double, near}, zeroBits},
		{"sums are rounded", []float32{16777216, 1, 1}, []float32{1, 1, 1}, 0x4b800000},
		{"from left to right", []float32{1, 1, 16777216}, []float32{1, 1, 1}, 0x4b800001},
		{"products beyond", []float32{3e38, 3e38}, []float32{2, -2}, notANumberBits},
		{"products that vanish", []float32{num(leastBits)}, []float32{0.5}, zeroBits},
		{"an infinity and 0", []float32{num(infinityBits)}, []float32{0}, notANumberBits},
		{"as many as there may be", repeatNumber(2, 256), repeatNumber(0.5, 256), 0x43800000},
	}
	for _, c := range cases {
		got, ok := impl.DotNumbers(c.a, c.b)
		wantSum(t, "DotNumbers, "+c.what, got, ok, c.want)
	}
	for _, n := range [][2]int{{1, 0}, {0, 1}, {2, 3}, {256, 255}, {257, 257}, {256, 257}, {257, 256}} {
		got, ok := impl.DotNumbers(repeatNumber(1, n[0]), repeatNumber(1, n[1]))
		wantFailure(t, "DotNumbers, lengths", got, ok)
	}
}

func TestSumComplex(t *testing.T) {
	minusZero := num(minusZeroBits)
	cases := []struct {
		what string
		list []complex64
		a, b uint32
	}{
		{"nil", nil, zeroBits, zeroBits},
		{"1 and 2 + 3 i", []complex64{1, complex(2, 3)}, 0x40400000, 0x40400000},
		{"-0 - 0 i", []complex64{complex(minusZero, minusZero)}, zeroBits, zeroBits},
		{"parts are rounded", []complex64{complex(16777216, -16777216), complex(1, -1), complex(1, -1)}, 0x4b800000, 0xcb800000},
		{"from left to right", []complex64{complex(1, -1), complex(1, -1), complex(16777216, -16777216)}, 0x4b800001, 0xcb800001},
		{"parts on their own", []complex64{cplx(infinityBits, oneBits), cplx(minusInfinity, oneBits)}, notANumberBits, 0x40000000},
		{"as many as there may be", repeatComplex(complex(1, 2), 256), 0x43800000, 0x44000000},
	}
	for _, c := range cases {
		got, ok := impl.SumComplex(c.list)
		wantBothSum(t, "SumComplex, "+c.what, got, ok, c.a, c.b)
	}
	got, ok := impl.SumComplex(repeatComplex(1, 257))
	wantBothFailure(t, "SumComplex, one too many", got, ok)
}

func TestDotComplex(t *testing.T) {
	near, double := float32(1+0x1p-12), float32(1+0x1p-11)
	cases := []struct {
		what string
		x, y []complex64
		a, b uint32
	}{
		{"nil and empty", nil, []complex64{}, zeroBits, zeroBits},
		{"i and i", []complex64{complex(0, 1)}, []complex64{complex(0, 1)}, 0xbf800000, zeroBits},
		{"1 + 2 i and 3 - i, 1 and i", []complex64{complex(1, 2), 1}, []complex64{complex(3, -1), complex(0, 1)}, 0x40a00000, 0x40c00000},
		{"products are wide", []complex64{complex(near, 1)}, []complex64{complex(near, double)}, 0x33800000, 0x40001000},
		{"products are narrowed", []complex64{complex(near, 0), -1}, []complex64{complex(near, 0), complex(double, 0)}, zeroBits, zeroBits},
		{"sums are rounded", []complex64{complex(0, 16777216), complex(0, 1), complex(0, 1)}, repeatComplex(1, 3), zeroBits, 0x4b800000},
		{"from left to right", []complex64{1, 1, 16777216}, repeatComplex(1, 3), 0x4b800001, zeroBits},
		{"as many as there may be", repeatComplex(2, 256), repeatComplex(0.5, 256), 0x43800000, zeroBits},
	}
	for _, c := range cases {
		got, ok := impl.DotComplex(c.x, c.y)
		wantBothSum(t, "DotComplex, "+c.what, got, ok, c.a, c.b)
	}
}

func TestDotConjugate(t *testing.T) {
	cases := []struct {
		what string
		x, y []complex64
		a, b uint32
	}{
		{"nil and empty", []complex64{}, nil, zeroBits, zeroBits},
		{"i and i", []complex64{complex(0, 1)}, []complex64{complex(0, 1)}, oneBits, zeroBits},
		{"those of a, not of b", []complex64{complex(1, 2)}, []complex64{complex(3, -1)}, oneBits, 0xc0e00000},
		{"two", []complex64{complex(1, 2), complex(0, 1)}, []complex64{complex(3, -1), 2}, oneBits, 0xc1100000},
		{"products are narrowed", []complex64{complex(1+0x1p-12, 0), -1}, []complex64{complex(1+0x1p-12, 0), complex(1+0x1p-11, 0)}, zeroBits, zeroBits},
		{"from left to right", []complex64{1, 1, 16777216}, repeatComplex(1, 3), 0x4b800001, zeroBits},
		{"as many as there may be", repeatComplex(complex(0, 1), 256), repeatComplex(complex(0, 1), 256), 0x43800000, zeroBits},
	}
	for _, c := range cases {
		got, ok := impl.DotConjugate(c.x, c.y)
		wantBothSum(t, "DotConjugate, "+c.what, got, ok, c.a, c.b)
	}
}

func TestDotsOfOtherLengthsFail(t *testing.T) {
	for _, n := range [][2]int{{1, 0}, {0, 1}, {2, 3}, {256, 255}, {257, 257}, {256, 257}, {257, 256}} {
		x, y := repeatComplex(1, n[0]), repeatComplex(1, n[1])
		got, ok := impl.DotComplex(x, y)
		wantBothFailure(t, "DotComplex, lengths", got, ok)
		got, ok = impl.DotConjugate(x, y)
		wantBothFailure(t, "DotConjugate, lengths", got, ok)
	}
}

func TestPowersOf(t *testing.T) {
	cases := []struct {
		what string
		list []complex64
		want uint32
	}{
		{"nil", nil, zeroBits},
		{"-0", []complex64{cplx(minusZeroBits, minusZeroBits)}, zeroBits},
		{"3 + 4 i and 1", []complex64{complex(3, 4), 1}, 0x41d00000},
		{"sums are wide", []complex64{4096, 1, 1}, 0x4b800001},
		{"sums are wide, imaginary", []complex64{complex(0, 4096), complex(0, 1), complex(0, -1)}, 0x4b800001},
		{"rounded as 64-bit numbers", []complex64{0x1p27, 1, 1}, math.Float32bits(0x1p54)},
		{"powers that vanish alone", repeatComplex(0x1p-76, 8), 1},
		{"beyond", []complex64{3e38}, infinityBits},
		{"a not-a-number", []complex64{1, cplx(zeroBits, notANumberBits)}, notANumberBits},
		{"as many as there may be", repeatComplex(complex(1, 1), 256), 0x44000000},
	}
	for _, c := range cases {
		got, ok := impl.PowersOf(c.list)
		wantSum(t, "PowersOf, "+c.what, got, ok, c.want)
	}
	got, ok := impl.PowersOf(repeatComplex(1, 257))
	wantFailure(t, "PowersOf, one too many", got, ok)
}
