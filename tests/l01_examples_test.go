package tests

import (
	"testing"

	"loop.example/g01403/impl"
)

// TestExamplesOfChapter1 checks the sentence of examples at the end of the chapter.
func TestExamplesOfChapter1(t *testing.T) {
	wantBothBits(t, "product of 1 + 2 i and 3 - i", impl.MulComplex(complex(1, 2), complex(3, -1)), 0x40a00000, 0x40a00000)
	wantBothBits(t, "quotient of 4 i and 2", impl.QuotientOf(complex(0, 4), 2), zeroBits, 0x40000000)
	phasor := impl.PhasorOf(0.25)
	wantBothBits(t, "phasor of 0.25 turns", phasor, zeroBits, oneBits)
	wantBits(t, "angle of the phasor of 0.25 turns", impl.AngleOf(phasor), 0x3e800000)
	text, ok := impl.ComplexText([]complex64{1})
	wantText(t, "text of 1", text, ok, "3f80000000000000")
	if tenths, ok := impl.TenthsOf(1); !ok || tenths != 0 {
		t.Errorf("tenths of decibels of the power 1: %d %v", tenths, ok)
	}
}
