package tests

import (
	"fmt"
	"math"
	"slices"
	"testing"

	"loop.example/g01403/impl"
)

// someLibrary has up to 6 spectra, each with a band of its own, and a little of others.
func someLibrary(w *words) [][]float32 {
	library := make([][]float32, 1+w.below(6))
	for k := range library {
		library[k] = make([]float32, 12)
		for i := range library[k] {
			library[k][i] = w.between(0, 0.25)
		}
		library[k][2*k] += w.between(1, 2)
		library[k][2*k+1] += w.between(1, 2)
	}
	return library
}

// TestMixturesAreUnmixedToTheirShares is the first part of promise 8, for lists that are mixtures.
func TestMixturesAreUnmixedToTheirShares(t *testing.T) {
	w := &words{87}
	for range 1000 {
		library := someLibrary(w)
		shares := make([]float32, len(library))
		for k := range shares {
			if w.below(4) > 0 {
				shares[k] = w.between(0, 2)
			}
		}
		mix, ok := impl.MixOf(library, shares)
		wantBool(t, "MixOf", ok, true)
		unmixed, far, ok := impl.Unmix(mix, library, 64)
		wantBool(t, "Unmix", ok, true)
		nearNumbers(t, fmt.Sprintf("shares of %d", len(shares)), unmixed, shares, 2e-4)
		near(t, "how far the mixture is", float64(far), 0, 2e-4)
		wantBool(t, "shares are at least nothing", slices.Min(unmixed) >= 0, true)
	}
}

// TestSharesAreAtLeastNothing unmixes lists that are no mixtures: shares are never less than nothing, mixtures come nearer
// with each round, and what is left in the end is upright on each spectrum, or leans away from one with a share of nothing.
func TestSharesAreAtLeastNothing(t *testing.T) {
	w, nothings := &words{88}, 0
	for range 500 {
		library := someLibrary(w)
		list := make([]float32, len(library[0]))
		for i := range list {
			list[i] = w.between(-2, 2)
		}
		before := math.Inf(1)
		for _, rounds := range []int64{1, 2, 3, 8, 64} {
			shares, far, ok := impl.Unmix(list, library, rounds)
			wantBool(t, "Unmix", ok && slices.Min(shares) >= 0, true)
			wantBool(t, "mixtures come nearer", float64(far) <= before+1e-5, true)
			before = float64(far)
			mix, _ := impl.MixOf(library, shares)
			wantTold(t, []told{{"how far a mixture is", say(impl.FarOf(list, mix)), say(far, true)}})
			if rounds < 64 {
				continue
			}
			for k, spectrum := range library {
				along := 0.0
				for i, x := range spectrum {
					along += float64(x) * (float64(list[i]) - float64(mix[i]))
				}
				if shares[k] > 0 {
					near(t, "what is left, along a spectrum", along, 0, 1e-3)
				} else {
					nothings++
					wantBool(t, "what is left leans away from a spectrum without a share", along < 1e-3, true)
				}
			}
		}
	}
	wantBool(t, "some shares are nothing", nothings > 100, true)
}

// TestRoundsOfSharesAreOneByOne: some rounds of Unmix are as many of UnmixOnce, from shares of nothing on.
func TestRoundsOfSharesAreOneByOne(t *testing.T) {
	w := &words{89}
	for range 50 {
		library := someLibrary(w)
		list, shares := anyScan(w, len(library[0])), make([]float32, len(library))
		for rounds := int64(1); rounds <= 64; rounds++ {
			shares, _ = impl.UnmixOnce(list, library, shares)
			mix, _ := impl.MixOf(library, shares)
			far, _ := impl.FarOf(list, mix)
			wantTold(t, []told{{fmt.Sprintf("Unmix in %d rounds", rounds), say(impl.Unmix(list, library, rounds)), say(shares, far, true)}})
		}
	}
}

// TestPartsMakeOne: parts are at least nothing, and stand to each other as the shares.
func TestPartsMakeOne(t *testing.T) {
	w := &words{90}
	for range 2000 {
		shares := make([]float32, 1+w.below(8))
		for i := range shares {
			shares[i] = w.between(0, 3) * float32(w.below(3))
		}
		shares[w.below(len(shares))] = 0.5
		parts, ok := impl.PartsOfOne(shares)
		wantBool(t, "PartsOfOne", ok && slices.Min(parts) >= 0, true)
		sum, whole := 0.0, 0.0
		for i, x := range parts {
			sum, whole = sum+float64(x), whole+float64(shares[i])
		}
		near(t, "the sum of parts", sum, 1, 1e-6)
		for i, x := range parts {
			near(t, "a part of one", float64(x)*whole, float64(shares[i]), 1e-5)
		}
	}
}

// TestPhasesTurnBack is the second part of promise 8.
func TestPhasesTurnBack(t *testing.T) {
	w := &words{91}
	for n := range 129 {
		phases := make([]complex64, n)
		for i := range phases {
			phases[i] = complex(w.between(-2, 2), w.between(-2, 2))
		}
		for _, turns := range []float32{0, 0.25, -0.5, 1, 3, w.between(-1, 1), w.between(-100, 100), 0.0078125, 1e30} {
			turned, ok := impl.TurnPhases(phases, turns)
			wantBool(t, "TurnPhases", ok && len(turned) == n, true)
			for i, x := range turned {
				near(t, "how long a turned phase is", float64(impl.LongOf(x)), float64(impl.LongOf(phases[i])), 2e-6)
				angle := float64(impl.AngleOf(x)) - float64(impl.AngleOf(phases[i])) - float64(turns)*float64(i)
				if turns < 1e9 {
					near(t, "how far a phase is turned", angle-math.Round(angle), 0, 1e-5)
				}
			}
			back, ok := impl.TurnPhases(turned, -turns)
			wantBool(t, "TurnPhases back", ok, true)
			nearComplexes(t, fmt.Sprintf("%d phases, turned by %v and back", n, turns), back, phases, 2e-6)
		}
		if n == 0 {
			continue
		}
		mean, ok := impl.MeanPhases(phases)
		a, b := 0.0, 0.0
		for _, x := range phases {
			a, b = a+float64(real(x)), b+float64(imag(x))
		}
		wantBool(t, "MeanPhases", ok, true)
		near(t, "the real part of a mean", float64(real(mean)), a/float64(n), 1e-5)
		near(t, "the imaginary part of a mean", float64(imag(mean)), b/float64(n), 1e-5)
	}
}

// anyFinite has any bits, but those of numbers that are not finite.
func anyFinite(w *words) float32 { return num(w.next() &^ 0x00800000) }

// randomSaved is valid, with any numbers.
func randomSaved(w *words) impl.Saved {
	var s impl.Saved
	for range 1 + w.below(8) {
		s.Name += string(rune('a' + w.below(26)))
	}
	for range w.below(13) {
		width := max(anyFinite(w), -anyFinite(w), least)
		s.Lines = append(s.Lines, line(anyFinite(w), anyFinite(w), width, int64(w.below(4))))
	}
	for range 1 + w.below(128) {
		s.List = append(s.List, anyFinite(w))
	}
	for range w.below(129) {
		s.Phases = append(s.Phases, complex(anyFinite(w), anyFinite(w)))
	}
	return s
}

// TestFilesAreLoadedAsTheyWereStored is the third part of promise 8.
func TestFilesAreLoadedAsTheyWereStored(t *testing.T) {
	w := &words{92}
	for range 300 {
		list := make([]impl.Saved, w.below(9))
		for i := range list {
			list[i] = randomSaved(w)
			bytes, ok := impl.StoreSaved(list[i])
			wantText(t, "StoreSaved", bytes, ok, bytesOf(list[i]))
			loaded, ok := impl.LoadSaved(bytes)
			wantTold(t, []told{{"LoadSaved of what was stored", say(loaded, ok), say(list[i], true)}})
			wantBool(t, "SameSaved", impl.ValidSaved(loaded) && impl.SameSaved([]impl.Saved{loaded}, list[i:i+1]), true)
		}
		all, ok := impl.StoreAll(list)
		wantBool(t, "StoreAll", ok, true)
		recovered, n, ok := impl.RecoverAll(all)
		wantBool(t, "RecoverAll", ok && n == int64(len(all)) && impl.SameSaved(recovered, list), true)
	}
}
