package tests

import (
	"fmt"
	"math"
	"testing"

	"loop.example/g01403/impl"
)

// The bits in these tables are those of another program, which follows the document's steps.
// Many numbers in them are those at which fewer steps, or steps in another order, lead to another last bit.

func TestSineTurns(t *testing.T) {
	cases := [][2]uint32{
		{zeroBits, zeroBits}, {minusZeroBits, minusZeroBits}, {0x3e800000, oneBits}, {0xbe800000, 0xbf800000},
		{0x3f000000, minusZeroBits}, {0xbf000000, minusZeroBits}, {0x3f400000, 0xbf800000}, {0xbf400000, oneBits},
		{oneBits, zeroBits}, {0xbf800000, zeroBits}, {0x3daaaaab, 0x3f000000}, {0x3e99999a, 0x3f737870}, {0xbe99999a, 0xbf737870},
		{0x3e7d8a5c, 0x3f7ff88a}, {0x3e825633, 0x3f7fe50f}, {0xbf0858d4, 0x3e505179}, {0x3f7ed86c, 0xbce81d8e},
		{leastBits, 0x00000006}, {0x80000001, minusZeroBits}, {firstNormal, 0x01c90fdb}, {0xb4000000, 0xb5490fdb}, {0x80800000, minusZeroBits},
		{0x4b000000, zeroBits}, {0x4affffff, minusZeroBits}, {0xcaffffff, minusZeroBits}, {0x4afffffe, zeroBits},
		{0x597fffff, zeroBits}, {0x59800000, zeroBits}, {0xd9800000, zeroBits}, {0x7149f2ca, zeroBits}, {0xf149f2ca, zeroBits},
		{greatestBits, zeroBits}, {0xff7fffff, zeroBits},
		{infinityBits, notANumberBits}, {minusInfinity, notANumberBits}, {notANumberBits, notANumberBits}, {otherNotANumber, notANumberBits},
	}
	for _, c := range cases {
		wantBits(t, fmt.Sprintf("SineTurns %08x", c[0]), impl.SineTurns(num(c[0])), c[1])
	}
}

func TestSineTurnsIsNearlyTheSine(t *testing.T) {
	for i := -4000; i <= 4000; i++ {
		x := float32(i) / 997
		want := math.Sin(2 * math.Pi * float64(x))
		if got := impl.SineTurns(x); math.Abs(float64(got)-want) > 1e-7 {
			t.Errorf("SineTurns %v: got %v, want %v", x, got, want)
		}
	}
}

func TestPhasorOf(t *testing.T) {
	minusZero := math.Copysign(0, -1)
	cases := []struct {
		turns float64
		a, b  uint32
	}{
		{0, oneBits, zeroBits}, {minusZero, oneBits, minusZeroBits}, {0.25, zeroBits, oneBits}, {-0.25, zeroBits, 0xbf800000},
		{0.5, 0xbf800000, zeroBits}, {-0.5, 0xbf800000, zeroBits}, {0.75, zeroBits, 0xbf800000}, {-0.75, zeroBits, oneBits},
		{1, oneBits, zeroBits}, {-1, oneBits, zeroBits},
		{0.125, 0x3f3504f3, 0x3f3504f3}, {0.375, 0xbf3504f3, 0x3f3504f3}, {0.625, 0xbf3504f3, 0xbf3504f3},
		{0.875, 0x3f3504f3, 0xbf3504f3}, {-0.125, 0x3f3504f3, 0xbf3504f3}, {7.25, zeroBits, oneBits}, {-7.25, zeroBits, 0xbf800000},
		{1e-300, oneBits, zeroBits}, {-1e-300, oneBits, zeroBits}, {-1e-20, oneBits, zeroBits}, {5e-324, oneBits, zeroBits}, {-5e-324, oneBits, zeroBits},
		{0.9999999999999999, oneBits, 0xa6490fdb}, {0.24999999999999997, 0x25490fdb, oneBits},
		{4503599627370495.5, 0xbf800000, zeroBits}, {-4503599627370495.5, 0xbf800000, zeroBits},
		{2251799813685247.75, zeroBits, 0xbf800000}, {-2251799813685247.75, zeroBits, oneBits},
		{4503599627370496, oneBits, zeroBits}, {-4503599627370496, oneBits, zeroBits}, {1e19, oneBits, zeroBits},
		{1e300, oneBits, zeroBits}, {-1e300, oneBits, zeroBits}, {math.MaxFloat64, oneBits, zeroBits},
		{math.Inf(1), notANumberBits, notANumberBits}, {math.Inf(-1), notANumberBits, notANumberBits}, {math.NaN(), notANumberBits, notANumberBits},
		{0.7312863134679617, 0xbdf040a7, 0xbf7e3b7e}, {-1.9917287234849814, 0x3f7fa785, 0x3d54c5ee}, {1.7632254755298797, 0x3da9fd38, 0xbf7f1ddc},
		{-1.854001141997542, 0x3f1ba1b1, 0x3f4b42ab}, {-0.25023838050129177, 0xbac45170, 0xbf7fffed}, {1.7499906250855397, 0xb8771009, 0xbf800000},
		{1.0301199468414297, 0x3f7b6de7, 0x3e40a2f0}, {-1.4680405767090132, 0xbf7adb1e, 0xbe4c3f49},
		{0.25 + 1.234567*0x1p-30, 0xb1f83974, oneBits}, {0.25 + 0x1p-52, 0xa6c90fdb, oneBits}, {0.25 + 3.3e-12, 0xadb6625a, oneBits},
	}
	for _, c := range cases {
		wantBothBits(t, fmt.Sprintf("PhasorOf %v", c.turns), impl.PhasorOf(c.turns), c.a, c.b)
	}
}

func TestPhasorOfIsNearlyOnTheCircle(t *testing.T) {
	for i := -4000; i <= 4000; i++ {
		turns := float64(i) / 991
		got := impl.PhasorOf(turns)
		sine, cosine := math.Sincos(2 * math.Pi * turns)
		if math.Abs(float64(real(got))-cosine) > 1e-7 || math.Abs(float64(imag(got))-sine) > 1e-7 {
			t.Errorf("PhasorOf %v: got %v, want %v %v", turns, got, cosine, sine)
		}
		far := math.Abs(float64(impl.AngleOf(got)) - (turns - math.Round(turns)))
		if far > 1e-7 && math.Abs(far-1) > 1e-7 {
			t.Errorf("AngleOf PhasorOf %v: got %v", turns, impl.AngleOf(got))
		}
	}
}

func TestAngleTurns(t *testing.T) {
	cases := [][3]uint32{
		{zeroBits, zeroBits, zeroBits}, {minusZeroBits, zeroBits, zeroBits}, {zeroBits, minusZeroBits, zeroBits}, {minusZeroBits, minusZeroBits, zeroBits},
		{oneBits, zeroBits, 0x3e800000}, {0xbf800000, zeroBits, 0xbe800000}, {oneBits, minusZeroBits, 0x3e800000},
		{zeroBits, oneBits, zeroBits}, {minusZeroBits, oneBits, zeroBits}, {zeroBits, 0xbf800000, 0x3f000000}, {minusZeroBits, 0xbf800000, 0x3f000000},
		{oneBits, oneBits, 0x3e000000}, {oneBits, 0xbf800000, 0x3ec00000}, {0xbf800000, 0xbf800000, 0xbec00000}, {0xbf800000, oneBits, 0xbe000000},
		{0x40400000, 0x40800000, 0x3dd1bfae}, {0xc0400000, 0x40800000, 0xbdd1bfae}, {0x40800000, 0x40400000, 0x3e172029},
		{0x40800000, 0xc0400000, 0x3eb46fec}, {0xc0800000, 0xc0400000, 0xbeb46fec},
		{leastBits, greatestBits, zeroBits}, {0x80000001, greatestBits, minusZeroBits}, {0x80000001, 0xff7fffff, 0xbf000000},
		{greatestBits, leastBits, 0x3e800000}, {greatestBits, 0x80000001, 0x3e800000}, {greatestBits, greatestBits, 0x3e000000},
		{leastBits, leastBits, 0x3e000000}, {leastBits, 0x00000002, 0x3d972029},
		{0x3f74cca3, oneBits, 0x3df8b611}, {0x3f5f9fd5, oneBits, 0x3dea07f4}, {0x3f6b5b6b, oneBits, 0x3df25074},
		{infinityBits, zeroBits, notANumberBits}, {zeroBits, infinityBits, notANumberBits}, {oneBits, minusInfinity, notANumberBits},
		{minusInfinity, minusInfinity, notANumberBits}, {notANumberBits, zeroBits, notANumberBits}, {zeroBits, otherNotANumber, notANumberBits},
		{notANumberBits, infinityBits, notANumberBits},
	}
	for _, c := range cases {
		y, x := num(c[0]), num(c[1])
		wantBits(t, fmt.Sprintf("AngleTurns %v %v", y, x), impl.AngleTurns(y, x), c[2])
		wantBits(t, fmt.Sprintf("AngleOf %v + %v i", x, y), impl.AngleOf(complex(x, y)), c[2])
	}
}

func TestAngleTurnsIsNearlyTheAngle(t *testing.T) {
	for i := range 61 {
		for j := range 61 {
			y, x := float32(i-30)*0.37, float32(j-30)*1.3
			want := math.Atan2(float64(y), float64(x)) / (2 * math.Pi)
			if got := impl.AngleTurns(y, x); math.Abs(float64(got)-want) > 1e-7 {
				t.Errorf("AngleTurns %v %v: got %v, want %v", y, x, got, want)
			}
		}
	}
}

func TestTenthsOf(t *testing.T) {
	cases := []struct {
		power uint32
		want  int64
	}{
		{oneBits, 0}, {0x40000000, 30}, {0x3f000000, -30}, {0x41200000, 100}, {0x42c80000, 200}, {0x447a0000, 300}, {0x3dcccccd, -100},
		{0x3f400000, -12}, {0x3fc00000, 18}, {leastBits, -4485}, {0x00000002, -4455}, {lastSubnormal, -3793}, {firstNormal, -3793}, {greatestBits, 3853},
		// Both sides of halves of a tenth.
		{0x3f817b6f, 0}, {0x3f817b70, 1}, {0x3f7d11d0, -1}, {0x3f7d11d1, 0}, {0x3f774f1c, -2}, {0x3f774f1d, -1},
		{0x3f847f89, 1}, {0x3f847f8a, 2}, {0x3f71adf9, -3}, {0x3f71adfa, -2},
		{0x7f6b2e19, 3849}, {0x7f6b2e1a, 3850}, {0x60af7b26, 2000}, {0x60af7b27, 2001}, {0x4c5e0e04, 776}, {0x4c5e0e05, 777},
		{0x3290354a, -778}, {0x3290354b, -777}, {0x1e367b5a, -2002}, {0x1e367b5b, -2001}, {0x00878401, -3791}, {0x00878402, -3790},
		{0x00000046, -4301}, {0x00000047, -4300},
	}
	for _, c := range cases {
		got, ok := impl.TenthsOf(num(c.power))
		if !ok || got != c.want {
			t.Errorf("TenthsOf %08x: got %d %v, want %d", c.power, got, ok, c.want)
		}
	}
	for _, bits := range []uint32{zeroBits, minusZeroBits, 0xbf800000, 0x80000001, infinityBits, minusInfinity, notANumberBits, otherNotANumber} {
		if got, ok := impl.TenthsOf(num(bits)); ok || got != 0 {
			t.Errorf("TenthsOf %08x: got %d %v, want a failure", bits, got, ok)
		}
	}
}

func TestLogNumber(t *testing.T) {
	cases := [][2]uint32{
		{zeroBits, minusInfinity}, {minusZeroBits, minusInfinity}, {oneBits, zeroBits}, {0x40000000, 0x3f317218}, {0x3f000000, 0xbf317218},
		{0x3f400000, 0xbe934b11}, {0x3fc00000, 0x3ecf991f}, {0x3fbfffff, 0x3ecf991d}, {0x3f3fffff, 0xbe934b13}, {0x402df854, 0x3f7fffff},
		{0x41200000, 0x40135d8e}, {0x3dcccccd, 0xc0135d8e}, {leastBits, 0xc2ce8ed0}, {0x00000003, 0xc2cc5c53}, {lastSubnormal, 0xc2aeac50},
		{firstNormal, 0xc2aeac50}, {greatestBits, 0x42b17218}, {infinityBits, infinityBits}, {minusInfinity, notANumberBits},
		{0xbf800000, notANumberBits}, {0x80000001, notANumberBits}, {notANumberBits, notANumberBits}, {otherNotANumber, notANumberBits},
		{0x3f800244, 0x3890feb7}, {0x3f800001, 0x33ffffff}, {0x3f7ffffd, 0xb4400001}, {0x3f7e36c7, 0xbbe5699b},
		{0x41178feb, 0x400fe5e7}, {0x3c413d3a, 0xc08e158f},
	}
	for _, c := range cases {
		wantBits(t, fmt.Sprintf("LogNumber %08x", c[0]), impl.LogNumber(num(c[0])), c[1])
	}
}

func TestExpNumber(t *testing.T) {
	cases := [][2]uint32{
		{zeroBits, oneBits}, {minusZeroBits, oneBits}, {oneBits, 0x402df854}, {0xbf800000, 0x3ebc5ab2}, {0x3f317218, 0x40000000},
		{0x41200000, 0x46ac14ee}, {0xc1200000, 0x383e6bce}, {0x42b17217, 0x7f7fff84}, {0x42b17218, infinityBits}, {0x42b17219, infinityBits},
		{0xc2aeac50, 0x007fffe6}, {0xc2cff1b4, leastBits}, {0xc2cff1b5, zeroBits}, {0xc2cff1b6, zeroBits},
		{0x43480000, infinityBits}, {0xc3480000, zeroBits}, {0x43480001, infinityBits}, {0xc3480001, zeroBits},
		{0x461c4000, infinityBits}, {0xc61c4000, zeroBits}, {greatestBits, infinityBits}, {0xff7fffff, zeroBits},
		{infinityBits, infinityBits}, {minusInfinity, zeroBits}, {notANumberBits, notANumberBits}, {otherNotANumber, notANumberBits},
		{leastBits, oneBits}, {0x80000001, oneBits},
		{0xc29d3a00, 0x06c00196}, {0xc2a692a3, 0x03659f84}, {0x4299bb44, 0x76edd6c3}, {0xc2825b28, 0x107a60d7}, {0x42a7fbf4, 0x7c108167},
		{0xc2a300e8, 0x04aafe6c}, {0x429675e7, 0x75b96184}, {0xc236e4b4, 0x1e832866}, {0x4288942b, 0x70b7a4c5}, {0x4283070f, 0x6eb71737}, {0xc1963bdb, 0x31f01195},
	}
	for _, c := range cases {
		wantBits(t, fmt.Sprintf("ExpNumber %08x", c[0]), impl.ExpNumber(num(c[0])), c[1])
	}
}

func TestExpAndLogAreNearlyThose(t *testing.T) {
	for i := -800; i <= 800; i++ {
		x := float32(i) / 10
		e := impl.ExpNumber(x)
		if want := math.Exp(float64(x)); math.Abs(float64(e)/want-1) > 1e-7 {
			t.Errorf("ExpNumber %v: got %v, want %v", x, e, want)
		}
		if want := math.Log(float64(e)); math.Abs(float64(impl.LogNumber(e))-want) > 1e-7*(1+math.Abs(want)) {
			t.Errorf("LogNumber %v: got %v, want %v", e, impl.LogNumber(e), want)
		}
	}
}
