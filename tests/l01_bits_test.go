package tests

import (
	"fmt"
	"math"
	"testing"

	"loop.example/g01403/impl"
)

func TestSameNumberIsToldByBits(t *testing.T) {
	for _, a := range strangeBits() {
		for _, b := range strangeBits() {
			want := bitsOf(num(a)) == bitsOf(num(b))
			wantBool(t, fmt.Sprintf("SameNumber %08x %08x", a, b), impl.SameNumber(num(a), num(b)), want)
		}
	}
	wantBool(t, "zeros with different signs", impl.SameNumber(0, num(minusZeroBits)), false)
	wantBool(t, "different not-a-numbers", impl.SameNumber(num(notANumberBits), num(otherNotANumber)), true)
	wantBool(t, "a not-a-number and a number", impl.SameNumber(num(notANumberBits), 1), false)
	wantBool(t, "neighbours", impl.SameNumber(1, num(oneBits+1)), false)
}

func TestSameComplexNeedsBothParts(t *testing.T) {
	wantBool(t, "equal", impl.SameComplex(complex(1, 2), complex(1, 2)), true)
	wantBool(t, "other real part", impl.SameComplex(complex(1, 2), complex(3, 2)), false)
	wantBool(t, "other imaginary part", impl.SameComplex(complex(1, 2), complex(1, 3)), false)
	wantBool(t, "parts in the other order", impl.SameComplex(complex(1, 2), complex(2, 1)), false)
	wantBool(t, "sign of a real zero", impl.SameComplex(0, cplx(minusZeroBits, zeroBits)), false)
	wantBool(t, "sign of an imaginary zero", impl.SameComplex(0, cplx(zeroBits, minusZeroBits)), false)
	wantBool(t, "not-a-numbers", impl.SameComplex(cplx(notANumberBits, otherNotANumber), cplx(quietLess, notANumberBits)), true)
	wantBool(t, "one not-a-number", impl.SameComplex(cplx(notANumberBits, oneBits), cplx(oneBits, notANumberBits)), false)
}

func TestIsFinite(t *testing.T) {
	for _, bits := range strangeBits() {
		want := bits&infinityBits != infinityBits
		wantBool(t, fmt.Sprintf("IsFinite %08x", bits), impl.IsFinite(num(bits)), want)
		wantBool(t, fmt.Sprintf("IsFiniteComplex, real %08x", bits), impl.IsFiniteComplex(complex(num(bits), 1)), want)
		wantBool(t, fmt.Sprintf("IsFiniteComplex, imaginary %08x", bits), impl.IsFiniteComplex(complex(1, num(bits))), want)
	}
}

func TestBitsOfAndFromBits(t *testing.T) {
	for _, bits := range strangeBits() {
		checkBits(t, bits)
	}
	checkBits(t, math.MaxUint32)
	for bits := uint64(0); bits <= math.MaxUint32; bits += 65521 {
		checkBits(t, uint32(bits))
	}
	if got := impl.BitsOf(num(minusInfinity)); got != 4286578688 {
		t.Errorf("bits of the negative infinity: %d", got)
	}
	if got := impl.BitsOf(num(otherNotANumber)); got != 2143289344 {
		t.Errorf("bits of a not-a-number: %d", got)
	}
	for _, n := range []int64{-1, 4294967296, math.MinInt64, math.MaxInt64, 1 << 32, 1<<32 | oneBits} {
		x, ok := impl.FromBits(n)
		wantFailure(t, fmt.Sprintf("FromBits %d", n), x, ok)
	}
}

func checkBits(t *testing.T, bits uint32) {
	t.Helper()
	x, ok := impl.FromBits(int64(bits))
	wantSum(t, fmt.Sprintf("FromBits %08x", bits), x, ok, bitsOf(num(bits)))
	if got := impl.BitsOf(num(bits)); got != int64(bitsOf(num(bits))) {
		t.Errorf("BitsOf %08x: got %08x", bits, got)
	}
}

func TestNarrowNumber(t *testing.T) {
	cases := []struct {
		x    float64
		want uint32
	}{
		{0, zeroBits}, {math.Copysign(0, -1), minusZeroBits}, {1, oneBits}, {-2.5, 0xc0200000},
		{1 + 0x1p-24, oneBits}, {1 + 0x3p-24, oneBits + 2}, {1 + 0x1p-24 + 0x1p-52, oneBits + 1},
		{0x1p-149, leastBits}, {0x1p-150, zeroBits}, {-0x1p-150, minusZeroBits}, {0x1.8p-150, leastBits}, {0x3p-150, 2},
		{1e-320, zeroBits}, {-1e-320, minusZeroBits}, {0x1p-126, firstNormal}, {0x1p-126 - 0x1p-149, lastSubnormal},
		{math.MaxFloat32, greatestBits}, {0x1.ffffff0p127 - 0x1p75, greatestBits}, {0x1.ffffff0p127, infinityBits},
		{1e39, infinityBits}, {-1e300, minusInfinity}, {math.Inf(1), infinityBits}, {math.Inf(-1), minusInfinity},
		{math.NaN(), notANumberBits},
	}
	for _, c := range cases {
		wantBits(t, fmt.Sprintf("NarrowNumber %g", c.x), impl.NarrowNumber(c.x), c.want)
		wantBothBits(t, fmt.Sprintf("NarrowComplex, real %g", c.x), impl.NarrowComplex(complex(c.x, 1)), c.want, oneBits)
		wantBothBits(t, fmt.Sprintf("NarrowComplex, imaginary %g", c.x), impl.NarrowComplex(complex(1, c.x)), oneBits, c.want)
	}
}

func TestSubnormalNumbers(t *testing.T) {
	subnormal := map[uint32]uint32{
		leastBits: zeroBits, 0x80000001: minusZeroBits, lastSubnormal: zeroBits, 0x807fffff: minusZeroBits, 0x00400000: zeroBits,
	}
	for bits, flushed := range subnormal {
		wantBool(t, fmt.Sprintf("IsSubnormal %08x", bits), impl.IsSubnormal(num(bits)), true)
		wantBits(t, fmt.Sprintf("FlushNumber %08x", bits), impl.FlushNumber(num(bits)), flushed)
	}
	for _, bits := range strangeBits() {
		if _, ok := subnormal[bits]; ok {
			continue
		}
		wantBool(t, fmt.Sprintf("IsSubnormal %08x", bits), impl.IsSubnormal(num(bits)), false)
		wantBits(t, fmt.Sprintf("FlushNumber %08x", bits), impl.FlushNumber(num(bits)), bitsOf(num(bits)))
	}
}

func TestProductsOfSmallIntegersAreExact(t *testing.T) {
	for n := range 13 * 13 * 13 * 13 {
		a, b, c, d := n%13-6, n/13%13-6, n/169%13-6, n/2197-6
		x, y := complex(float32(a), float32(b)), complex(float32(c), float32(d))
		product := impl.MulComplex(x, y)
		if real(product) != float32(a*c-b*d) || imag(product) != float32(a*d+b*c) {
			t.Fatalf("%v times %v: %v", x, y, product)
		}
		if scaled := impl.ScaleComplex(x, float32(c)); real(scaled) != float32(a*c) || imag(scaled) != float32(b*c) {
			t.Fatalf("%v times %d: %v", x, c, scaled)
		}
		if power := impl.PowerOf(x); power != float32(a*a+b*b) {
			t.Fatalf("power of %v: %v", x, power)
		}
		if quotient := impl.QuotientOf(product, y); y != 0 && quotient != x {
			t.Fatalf("%v by %v: %v", product, y, quotient)
		}
	}
}

// TestProductsToTheLastBit holds results against those of another program.
func TestProductsToTheLastBit(t *testing.T) {
	cases := []struct {
		in                                     [4]uint32
		mul1, mul2, quo1, quo2, scale1, scale2 uint32
		power, long                            uint32
	}{
		{[4]uint32{0xc0430da8, 0x4536b6bf, 0xbf8cb283, 0x3c35c88b}, 0xc1e8afcf, 0xc548d73d, 0x41ecec25, 0xc52634c0, 0x405666f6, 0xc548d6b2, 0x4b026863, 0x4536b6c6},
		{[4]uint32{0xc1217433, 0xc0c68c2d, 0x3a960111, 0xb9dac123}, 0xbc679fce, 0xbb3d6e54, 0xc5bcb105, 0xc5ee373f, 0xbc3d3584, 0xbbe8adec, 0x430c52a5, 0x413d885f},
		{[4]uint32{0xc45193a2, 0x4209adfe, 0x4076e20e, 0x421d9dde}, 0xc58f70c5, 0xc7008401, 0xbf994f1f, 0x41a94230, 0xc54a1ced, 0x4304c6c5, 0x492bdc6f, 0x4451c0d6},
		{[4]uint32{0x4219ac35, 0xc17851d3, 0xb9dfa8d9, 0xbc9e9d06}, 0xbea23ef6, 0xbf3cbb30, 0x443d5f01, 0x44fa1caa, 0xbc86425d, 0x3bd8f30f, 0x44d69a6b, 0x4225bd06},
		{[4]uint32{0x444c0491, 0xbe93b975, 0x3b3a48f2, 0x411caa2d}, 0x40a4a1f0, 0x45f9b4cd, 0xbbacbf0e, 0xc2a6b060, 0x40147573, 0xba56fdae, 0x49229749, 0x444c0492},
		{[4]uint32{0xb8d2c9ee, 0x3fa6592c, 0x3f1e8452, 0x3a7ecccb}, 0xbaadb9e6, 0x3f4e0207, 0x3b4d4600, 0x400652cf, 0xb8828595, 0x3f4e0209, 0x3fd82f88, 0x3fa6592c},
	}
	for i, c := range cases {
		x, y := cplx(c.in[0], c.in[1]), cplx(c.in[2], c.in[3])
		wantBothBits(t, fmt.Sprint("MulComplex ", i), impl.MulComplex(x, y), c.mul1, c.mul2)
		wantBothBits(t, fmt.Sprint("QuotientOf ", i), impl.QuotientOf(x, y), c.quo1, c.quo2)
		wantBothBits(t, fmt.Sprint("ScaleComplex ", i), impl.ScaleComplex(x, real(y)), c.scale1, c.scale2)
		wantBits(t, fmt.Sprint("PowerOf ", i), impl.PowerOf(x), c.power)
		wantBits(t, fmt.Sprint("LongOf ", i), impl.LongOf(x), c.long)
	}
}

func TestProductsAreWide(t *testing.T) {
	near, double := float32(1+0x1p-12), float32(1+0x1p-11)
	got := impl.MulComplex(complex(near, 1), complex(near, double))
	wantBits(t, "what 32 bits would cut off", real(got), math.Float32bits(0x1p-24))
	got = impl.MulComplex(complex(3e38, 3e38), complex(2, 2))
	wantBothBits(t, "beyond 32 bits in between", got, zeroBits, infinityBits)
	wantBothBits(t, "QuotientOf great numbers", impl.QuotientOf(complex(1e38, 1e38), complex(1e38, 1e38)), oneBits, zeroBits)
	wantBothBits(t, "QuotientOf small numbers", impl.QuotientOf(cplx(leastBits, leastBits), cplx(leastBits, zeroBits)), oneBits, oneBits)
	wantBits(t, "PowerOf a great number", impl.PowerOf(complex(3e38, 0)), infinityBits)
	wantBits(t, "LongOf a great number", impl.LongOf(complex(3e38, 0)), math.Float32bits(3e38))
	wantBits(t, "PowerOf the least number", impl.PowerOf(cplx(leastBits, zeroBits)), zeroBits)
	wantBits(t, "LongOf the least number", impl.LongOf(cplx(zeroBits, 0x80000001)), leastBits)
	wantBits(t, "LongOf both greatest", impl.LongOf(cplx(greatestBits, greatestBits)), infinityBits)
}

func TestProductsOfZerosAndInfinities(t *testing.T) {
	minusZero, infinity := num(minusZeroBits), num(infinityBits)
	wantBothBits(t, "-0 times 1", impl.MulComplex(complex(minusZero, 0), 1), minusZeroBits, zeroBits)
	wantBothBits(t, "-0 - 0 i times 1", impl.MulComplex(complex(minusZero, minusZero), 1), zeroBits, minusZeroBits)
	wantBothBits(t, "infinity times 1", impl.MulComplex(complex(infinity, 0), 1), infinityBits, notANumberBits)
	wantBothBits(t, "infinity times i", impl.MulComplex(complex(infinity, 1), complex(0, 1)), notANumberBits, infinityBits)
	wantBothBits(t, "scaled by infinity", impl.ScaleComplex(1, infinity), infinityBits, notANumberBits)
	wantBothBits(t, "scaled by -0", impl.ScaleComplex(complex(1, -1), minusZero), minusZeroBits, zeroBits)
	wantBothBits(t, "scaled to less than the least", impl.ScaleComplex(cplx(leastBits, 0x80000003), 0.5), zeroBits, 0x80000002)
	wantBothBits(t, "scaled beyond", impl.ScaleComplex(complex(3e38, -3e38), 2), infinityBits, minusInfinity)
	wantBothBits(t, "conjugate", impl.ConjugateOf(complex(1, 2)), oneBits, 0xc0000000)
	wantBothBits(t, "conjugate of 0", impl.ConjugateOf(0), zeroBits, minusZeroBits)
	wantBothBits(t, "conjugate of 0 - 0 i", impl.ConjugateOf(complex(minusZero, minusZero)), minusZeroBits, zeroBits)
	wantBothBits(t, "conjugate of an infinity", impl.ConjugateOf(complex(0, infinity)), zeroBits, minusInfinity)
	wantBits(t, "power of an infinity", impl.PowerOf(complex(0, -infinity)), infinityBits)
	wantBits(t, "power with a not-a-number", impl.PowerOf(cplx(infinityBits, notANumberBits)), notANumberBits)
	wantBits(t, "length of -0 - 0 i", impl.LongOf(complex(minusZero, minusZero)), zeroBits)
}

func TestQuotientOf(t *testing.T) {
	minusZero := num(minusZeroBits)
	wantBothBits(t, "4 i by 2", impl.QuotientOf(complex(0, 4), 2), zeroBits, 0x40000000)
	wantBothBits(t, "6 + 8 i by 3 + 4 i", impl.QuotientOf(complex(6, 8), complex(3, 4)), 0x40000000, zeroBits)
	wantBothBits(t, "1 by i", impl.QuotientOf(1, complex(0, 1)), zeroBits, 0xbf800000)
	wantBothBits(t, "1 by 3", impl.QuotientOf(1, 3), 0x3eaaaaab, zeroBits)
	wantBothBits(t, "1 by 0", impl.QuotientOf(1, 0), notANumberBits, notANumberBits)
	wantBothBits(t, "0 by 0", impl.QuotientOf(0, complex(minusZero, minusZero)), notANumberBits, notANumberBits)
	wantBothBits(t, "1 by infinity", impl.QuotientOf(1, complex(num(infinityBits), 0)), notANumberBits, notANumberBits)
	wantBothBits(t, "infinity by 2", impl.QuotientOf(complex(num(infinityBits), 0), 2), infinityBits, notANumberBits)
	wantBothBits(t, "1 by the least", impl.QuotientOf(1, cplx(leastBits, zeroBits)), infinityBits, zeroBits)
	wantBothBits(t, "-1 by 1", impl.QuotientOf(-1, 1), 0xbf800000, zeroBits)
}

func TestRootNumber(t *testing.T) {
	cases := [][2]uint32{
		{zeroBits, zeroBits}, {minusZeroBits, minusZeroBits}, {oneBits, oneBits}, {0x40000000, 0x3fb504f3}, {0x41100000, 0x40400000},
		{leastBits, 0x1a3504f3}, {0x00000003, 0x1a9cc471}, {greatestBits, 0x5f7fffff}, {infinityBits, infinityBits},
		{minusInfinity, notANumberBits}, {0xbf800000, notANumberBits}, {0x80000001, notANumberBits}, {otherNotANumber, notANumberBits},
	}
	for _, c := range cases {
		wantBits(t, fmt.Sprintf("RootNumber %08x", c[0]), impl.RootNumber(num(c[0])), c[1])
	}
}
