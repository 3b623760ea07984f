package tests

import (
	"testing"

	"loop.example/g01403/impl"
)

const mixtureSteps = 1500

// otherWords returns other words for each i.
func otherWords(r [4]uint32, i int) [4]uint32 {
	for k := range r {
		r[k] = r[k]*uint32(4*i+5) + uint32(7*i+k)
	}
	return r
}

// anyList has n numbers: one of eight has any finite ones, one of eight others around 0, and the rest is that of someNumbers.
func anyList(n int, r [4]uint32) []float32 {
	switch r[1] % 8 {
	case 0:
		list := make([]float32, n)
		for i := range list {
			list[i] = num((r[i%4]*uint32(2*i+1) + uint32(i)) &^ 0x00800000)
		}
		return list
	case 1:
		return evenly(n, -2, 3, r)
	}
	return someNumbers(n, r)
}

// anyLibrary has so many spectra of n numbers, of which one of four comes twice.
func anyLibrary(many, n int, r [4]uint32) [][]float32 {
	library := make([][]float32, many)
	for i := range library {
		library[i] = anyList(n, otherWords(r, i))
		if i > 0 && r[3]>>(i%32)%4 == 0 {
			library[i] = library[i-1]
		}
	}
	return library
}

func normalBits(r [4]uint32) []int64 {
	list := anyList(1+int(r[1]>>4%20), r)
	bits := append(bitsOfAll(impl.NormalOf(list)), bitsOfAll(impl.ScaledOf(list))...)
	return append(append(bits, bitsOfAll(impl.SmoothMean(list, int64(r[2]%6)))...), bitsOfAll(impl.SmoothCurve(list))...)
}

func baseBits(r [4]uint32) []int64 {
	list, rounds := anyList(1+int(r[1]>>4%20), r), int64(r[2]%9)
	bits := append(bitsOfAll(impl.BaseOf(list, rounds)), bitsOfAll(impl.LessBase(list, rounds))...)
	bits = append(bits, bitsOfAll(impl.AtSteps(list, between(r[3], -3, 12), between(r[2]*3, -2, 2), 1+int64(r[0]>>8%16)))...)
	return append(bits, bitsOfAll(impl.AtSteps(list, -1, 0.5, 20))...)
}

func shiftBits(r [4]uint32) []int64 {
	n := 1 + int(r[1]>>4%16)
	list, other := anyList(n, r), anyList(n, otherWords(r, 9))
	bits := append(bitsOfAll(impl.ShiftList(list, int64(r[2]%41)-20)), bitsOfAll(impl.BestShift(list, other, int64(r[3]%12)))...)
	moved, _ := impl.ShiftList(list, int64(r[0]>>8%7)-3)
	return append(bits, bitsOfAll(impl.BestShift(list, moved, int64(n)+2))...)
}

func likeBits(r [4]uint32) []int64 {
	n := 1 + int(r[1]>>4%9)
	list, library := anyList(n, r), anyLibrary(1+int(r[2]%8), n, r)
	bits := append(bitsOfAll(impl.LikeOf(list, library[0])), bitsOfAll(impl.FarOf(list, library[0]))...)
	bits = append(append(bits, bitsOfAll(impl.MeanSpectrum(library))...), bitsOfAll(impl.OddSpectrum(library))...)
	return append(append(bits, bitsOfAll(impl.RankLibrary(list, library))...), bitsOfAll(impl.PurestOf(library, 1+int64(r[3]>>8)%int64(len(library))))...)
}

func mixBits(r [4]uint32) []int64 {
	n := 1 + int(r[1]>>4%9)
	list, library := anyList(n, r), anyLibrary(1+int(r[2]%6), n, r)
	shares := evenly(len(library), 0, 2, swapped(r))
	if r[0]>>8%4 == 0 {
		shares[0] = 0
	}
	bits := append(bitsOfAll(impl.MixOf(library, shares)), bitsOfAll(impl.PartsOfOne(shares))...)
	bits = append(bits, bitsOfAll(impl.UnmixOnce(list, library, shares))...)
	bits = append(bits, bitsOfAll(impl.Unmix(list, library, 1+int64(r[3]%6)))...)
	mix, _ := impl.MixOf(library, shares)
	return append(bits, bitsOfAll(impl.UnmixShared([][]float32{list, mix, library[0]}, library, 1+int64(r[3]>>8%3), 1+int64(r[0]>>16%8)))...)
}

// anyPhases are at most 8; one of four lists has any finite ones.
func anyPhases(r [4]uint32) []complex64 {
	phases := make([]complex64, r[3]>>4%9)
	for i := range phases {
		word := otherWords(r, i)
		phases[i] = complex(mild(word[0]), mild(word[1]))
		if r[2]%4 == 0 {
			phases[i] = complex(num(word[0]&^0x00800000), num(word[1]&^0x00800000))
		}
	}
	return phases
}

func phaseBits(r [4]uint32) []int64 {
	phases := anyPhases(r)
	bits := append(bitsOfAll(impl.TurnPhases(phases, mild(r[0]))), bitsOfAll(impl.MeanPhases(phases))...)
	return append(bits, bitsOfAll(impl.TurnPhases(phases, between(r[1], -1, 1)))...)
}

func anySaved(r [4]uint32) impl.Saved {
	s := impl.Saved{Name: "abcxyzqk"[:1+r[0]>>4%8], List: anyList(1+int(r[1]>>4%9), r), Phases: anyPhases(r)}
	for i := range int(r[2] >> 4 % 13) {
		word := otherWords(r, i)
		s.Lines = append(s.Lines, someLine(word[0], word[1], word[2]))
	}
	return s
}

// storedBits stores one to three, and reads them with one byte that has become another one, or without some of the last ones.
func storedBits(r [4]uint32) []int64 {
	all, ok := impl.StoreAll([]impl.Saved{anySaved(r), anySaved(otherWords(r, 1)), anySaved(otherWords(r, 2))}[:1+r[3]%3])
	bits, place := bitsOfAll(all, ok), int(r[2]>>3)%len(all)
	bent := all[:place] + string([]byte{all[place] ^ byte(1<<(r[1]>>8%8))}) + all[place+1:]
	for _, text := range []string{all, bent, all[:place], all + bent} {
		list, n, ok := impl.RecoverAll(text)
		one, loads := impl.LoadSaved(text)
		bits = append(bits, bitsOfAll(int64(len(list)), n, loads, int64(len(one.List)), ok)...)
	}
	return bits
}

// TestWalksOfMixtures holds folded results against those of another program, as TestWalks does.
func TestWalksOfMixtures(t *testing.T) {
	wantWalks(t, mixtureSteps, []walkTo{
		{"NormalOf, ScaledOf, SmoothMean and SmoothCurve", 101, normalBits, 0x4a2255fd4a68d4ee},
		{"BaseOf, LessBase and AtSteps", 102, baseBits, 0xd966a5638f39f550},
		{"ShiftList and BestShift", 103, shiftBits, 0x2638092c9c118bc2},
		{"LikeOf, FarOf, MeanSpectrum, OddSpectrum, RankLibrary and PurestOf", 104, likeBits, 0xdb2c944911fe1028},
		{"MixOf, PartsOfOne, UnmixOnce, Unmix and UnmixShared", 105, mixBits, 0xbf19e04090671552},
		{"TurnPhases and MeanPhases", 106, phaseBits, 0xaa74c761eeae6146},
		{"StoreAll, RecoverAll and LoadSaved", 107, storedBits, 0x26e0bf4d9e3fcf92},
	})
}
