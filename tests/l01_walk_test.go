package tests

import (
	"math"
	"testing"

	"loop.example/g01403/impl"
)

// A walk calls functions with many numbers and folds the bits of all results to one number.
// The wanted ones are those of another program, in another language, which follows the document's steps.

const walkSteps = 50000

func walk(start uint64, tell func(r [4]uint32) []int64) uint64 {
	return walkFor(walkSteps, start, tell)
}

// walkFor returns the folded results; tell gets four numbers of 32 bits at a time.
func walkFor(steps int, start uint64, tell func(r [4]uint32) []int64) uint64 {
	state, folded := start, uint64(0)
	for range steps {
		var r [4]uint32
		for i := range r {
			state = state*6364136223846793005 + 1442695040888963407
			r[i] = uint32(state >> 32)
		}
		for _, n := range tell(r) {
			folded = folded*1099511628211 + uint64(n)
		}
	}
	return folded
}

// walkTo is a walk, and where it should lead.
type walkTo struct {
	what  string
	start uint64
	tell  func(r [4]uint32) []int64
	want  uint64
}

func wantWalks(t *testing.T, steps int, walks []walkTo) {
	t.Helper()
	for _, w := range walks {
		if got := walkFor(steps, w.start, w.tell); got != w.want {
			t.Errorf("%s: the walk leads to %016x, want %016x", w.what, got, w.want)
		}
	}
}

// mild returns a number neither very small nor very great.
func mild(r uint32) float32 {
	return num(r&0x807fffff | (107+(r>>23)%32)<<23)
}

func mildPositive(r uint32) float32 { return mild(r & 0x7fffffff) }

func bitsOfBoth(x complex64) []int64 {
	return []int64{int64(bitsOf(real(x))), int64(bitsOf(imag(x)))}
}

func TestWalks(t *testing.T) {
	n := func(x float32) int64 { return int64(bitsOf(x)) }
	wantWalks(t, walkSteps, []walkTo{
		{"SineTurns", 1, func(r [4]uint32) []int64 { return []int64{n(impl.SineTurns(mild(r[0])))} }, 0x302ab9c4036421dc},
		{"PhasorOf", 2, func(r [4]uint32) []int64 {
			return bitsOfBoth(impl.PhasorOf(float64(mild(r[0])) * float64(mild(r[1]))))
		}, 0x50353dcf95ef67cd},
		{"AngleTurns", 3, func(r [4]uint32) []int64 {
			return []int64{n(impl.AngleTurns(mild(r[0]), mild(r[1]))), n(impl.AngleTurns(num(r[2]), num(r[3])))}
		}, 0x23e30243e4223f70},
		{"LogNumber", 4, func(r [4]uint32) []int64 {
			return []int64{n(impl.LogNumber(mildPositive(r[0]))), n(impl.LogNumber(num(r[1])))}
		}, 0x7362cb09d12a6e79},
		{"ExpNumber", 5, func(r [4]uint32) []int64 {
			return []int64{n(impl.ExpNumber(mild(r[0]) / 8)), n(impl.ExpNumber(num(r[1])))}
		}, 0x435ddd6da3ac91d1},
		{"TenthsOf", 6, func(r [4]uint32) []int64 {
			tenths, _ := impl.TenthsOf(mildPositive(r[0]))
			return []int64{tenths}
		}, 0xeeb43eb11c3f716b},
		{"MulComplex", 7, func(r [4]uint32) []int64 {
			mildOne := impl.MulComplex(complex(mild(r[0]), mild(r[1])), complex(mild(r[2]), mild(r[3])))
			return append(bitsOfBoth(mildOne), bitsOfBoth(impl.MulComplex(cplx(r[0], r[1]), cplx(r[2], r[3])))...)
		}, 0x5d45a6dcf505e745},
		{"QuotientOf", 8, func(r [4]uint32) []int64 {
			mildOne := impl.QuotientOf(complex(mild(r[0]), mild(r[1])), complex(mild(r[2]), mild(r[3])))
			return append(bitsOfBoth(mildOne), bitsOfBoth(impl.QuotientOf(cplx(r[0], r[1]), cplx(r[2], r[3])))...)
		}, 0x04ab0405daecdc54},
		{"ScaleComplex", 9, func(r [4]uint32) []int64 {
			mildOne := impl.ScaleComplex(complex(mild(r[0]), mild(r[1])), mild(r[2]))
			return append(bitsOfBoth(mildOne), bitsOfBoth(impl.ScaleComplex(cplx(r[0], r[1]), num(r[2])))...)
		}, 0x271fcab25074659b},
		{"PowerOf and LongOf", 10, func(r [4]uint32) []int64 {
			return []int64{n(impl.PowerOf(complex(mild(r[0]), mild(r[1])))), n(impl.LongOf(complex(mild(r[2]), mild(r[3])))),
				n(impl.PowerOf(cplx(r[0], r[1]))), n(impl.LongOf(cplx(r[2], r[3])))}
		}, 0x53d2901e1f1662c2},
		{"RootNumber", 11, func(r [4]uint32) []int64 {
			return []int64{n(impl.RootNumber(mildPositive(r[0]))), n(impl.RootNumber(num(r[1])))}
		}, 0x7e9241fe2d847701},
	})
}

// TestMildNumbers keeps the walks' numbers inside the range that their name tells.
func TestMildNumbers(t *testing.T) {
	for _, r := range []uint32{0, math.MaxUint32, 0x7fffffff, 0x80000000, 0x12345678} {
		if x := math.Abs(float64(mild(r))); x < 0x1p-20 || x >= 0x1p12 {
			t.Errorf("mild %08x: %v", r, x)
		}
	}
}
