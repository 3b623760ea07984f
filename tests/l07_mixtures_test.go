package tests

import (
	"fmt"
	"math"
	"slices"
	"testing"

	"loop.example/g01403/impl"
)

// wantNoSpectra checks that all functions refuse what are no spectra.
func wantNoSpectra(t *testing.T, what string, many [][]float32) {
	t.Helper()
	wantBool(t, "AreSpectra"+what, impl.AreSpectra(many), false)
	list, shares := []float32{1}, repeatNumber(1, len(many))
	if len(many) > 0 {
		list = repeatNumber(1, len(many[0]))
	}
	wantFailing(t, []failing{
		{"MeanSpectrum" + what, fails(impl.MeanSpectrum(many))},
		{"OddSpectrum" + what, fails(impl.OddSpectrum(many))},
		{"RankLibrary" + what, fails(impl.RankLibrary(list, many))},
		{"MixOf" + what, fails(impl.MixOf(many, shares))},
		{"UnmixOnce" + what, fails(impl.UnmixOnce(list, many, shares))},
		{"Unmix" + what, fails(impl.Unmix(list, many, 1))},
		{"PurestOf" + what, fails(impl.PurestOf(many, 1))},
		{"UnmixShared" + what, fails(impl.UnmixShared([][]float32{list}, many, 1, 1))},
	})
}

// alone returns so many spectra, each of which has one number that is not 0, at its own place.
func alone(many int) [][]float32 {
	library := make([][]float32, many)
	for i := range library {
		library[i] = setAt(repeatNumber(0, many), i, float32(i+1))
	}
	return library
}

func TestCountsOfSpectra(t *testing.T) {
	wantNoSpectra(t, " of none", nil)
	wantNoSpectra(t, " of an empty one", [][]float32{{}})
	wantNoSpectra(t, " of empty ones", [][]float32{{}, {}})
	wantNoSpectra(t, " of one that is empty", [][]float32{{1}, {}})
	for _, many := range []int{9, 10, 300} {
		wantNoSpectra(t, fmt.Sprintf(" of %d", many), alone(many)[:9])
		wantNoSpectra(t, fmt.Sprintf(" of %d equal ones", many), slices.Repeat([][]float32{{1, 2}}, many))
	}
	for _, x := range notFinite() {
		for i := range 8 {
			library := alone(8)
			library[i] = setAt(library[i], 7-i, x)
			wantNoSpectra(t, fmt.Sprintf(" with %s in number %d", say(x), i), library)
		}
	}
	for many := 1; many <= 8; many++ {
		for _, n := range []int{1, 128} {
			wantBool(t, "AreSpectra", impl.AreSpectra(slices.Repeat([][]float32{repeatNumber(0, n)}, many)), true)
		}
		library, all := alone(many), upTo(many + 1)[1:]
		_, odd := impl.OddSpectrum(library)
		_, mean := impl.MeanSpectrum(library)
		wantBool(t, fmt.Sprintf("OddSpectrum and MeanSpectrum of %d", many), odd && mean, true)
		wantTold(t, []told{{fmt.Sprintf("MixOf of %d", many), say(impl.MixOf(library, repeatNumber(1, many))), say(all, true)}})
	}
}

// TestMostShares: a library has 8 spectra, but only 6 can be unmixed.
func TestMostShares(t *testing.T) {
	for many := 1; many <= 8; many++ {
		library, ones, list := alone(many), repeatNumber(1, many), upTo(many + 1)[1:]
		once, onceOk := impl.UnmixOnce(list, library, repeatNumber(0, many))
		shares, far, ok := impl.Unmix(list, library, 1)
		shared, sharedOk := impl.UnmixShared([][]float32{list, list}, library, 1, 1)
		what := fmt.Sprintf(" %d spectra", many)
		if many > 6 {
			wantFailing(t, []failing{
				{"UnmixOnce" + what, fails(once, onceOk)},
				{"Unmix" + what, fails(shares, far, ok)},
				{"UnmixShared" + what, fails(shared, sharedOk)},
			})
			continue
		}
		wantTold(t, []told{
			{"UnmixOnce" + what, say(once, onceOk), say(ones, true)},
			{"Unmix" + what, say(shares, far, ok), say(ones, float32(0), true)},
			{"UnmixShared" + what, say(shared, sharedOk), say([]float32{1, 1}, true)},
		})
	}
}

func TestSharesThatAreRefused(t *testing.T) {
	list, library := dull, threeColours
	for n := range 10 {
		if n == len(library) {
			continue
		}
		what, shares := fmt.Sprintf(" with %d shares", n), repeatNumber(1, n)
		wantFailing(t, []failing{
			{"MixOf" + what, fails(impl.MixOf(library, shares))},
			{"UnmixOnce" + what, fails(impl.UnmixOnce(list, library, shares))},
		})
	}
	for i := range library {
		for _, x := range notFinite() {
			what, shares := fmt.Sprintf(" with the share %s at %d", say(x), i), setAt([]float32{1, 1, 1}, i, x)
			wantFailing(t, []failing{
				{"MixOf" + what, fails(impl.MixOf(library, shares))},
				{"UnmixOnce" + what, fails(impl.UnmixOnce(list, library, shares))},
				{"PartsOfOne" + what, fails(impl.PartsOfOne(shares))},
			})
		}
		for _, x := range belowZero() {
			what, shares := fmt.Sprintf(" with the share %s at %d", say(x), i), setAt([]float32{1, 1, 1}, i, x)
			_, ok := impl.MixOf(library, setAt(shares, i, max(x, -9)))
			wantBool(t, "MixOf"+what, ok, true)
			wantFailing(t, []failing{
				{"UnmixOnce" + what, fails(impl.UnmixOnce(list, library, shares))},
				{"PartsOfOne" + what, fails(impl.PartsOfOne(shares))},
			})
		}
	}
	for _, rounds := range wrongCounts(1, 64) {
		what := fmt.Sprintf(" in %d rounds", rounds)
		wantFailing(t, []failing{
			{"Unmix" + what, fails(impl.Unmix(list, library, rounds))},
			{"UnmixShared" + what, fails(impl.UnmixShared([][]float32{list}, library, rounds, 1))},
		})
	}
}

func TestSharesOfNothing(t *testing.T) {
	nothing := repeatNumber(0, 6)
	wantTold(t, []told{
		{"MixOf with shares of nothing", say(impl.MixOf(threeColours, []float32{0, 0, 0})), say(nothing, true)},
		{"MixOf of nothing", say(impl.MixOf([][]float32{nothing, nothing}, []float32{3, 4})), say(nothing, true)},
		{"Unmix of nothing", say(impl.Unmix(nothing, threeColours, 64)), say([]float32{0, 0, 0}, float32(0), true)},
		{"UnmixOnce of nothing", say(impl.UnmixOnce(nothing, [][]float32{reds}, []float32{0})), say([]float32{0}, true)},
		{"PartsOfOne beside nothing", say(impl.PartsOfOne([]float32{0, 4, 0, 12})), say([]float32{0, 0.25, 0, 0.75}, true)},
		{"PartsOfOne of one", say(impl.PartsOfOne([]float32{least})), say([]float32{1}, true)},
		{"Unmix of what is below nothing", say(impl.Unmix([]float32{-3, -4}, [][]float32{{1, 0}, {0, 2}}, 9)), say([]float32{0, 0}, float32(5), true)},
	})
	for n := 1; n <= 8; n++ {
		_, ok := impl.PartsOfOne(repeatNumber(1, n))
		wantBool(t, fmt.Sprintf("PartsOfOne of %d shares", n), ok, true)
		wantFailing(t, []failing{
			{"PartsOfOne of nothing", fails(impl.PartsOfOne(repeatNumber(0, n)))},
			{"PartsOfOne of nothing with a sign", fails(impl.PartsOfOne(repeatNumber(minusZero, n)))},
		})
	}
	for _, n := range []int{0, 9, 10, 257} {
		wantFailing(t, []failing{{fmt.Sprintf("PartsOfOne of %d shares", n), fails(impl.PartsOfOne(repeatNumber(1, n)))}})
	}
	for i := range threeColours {
		library := slices.Clone(threeColours)
		library[i] = nothing
		what := fmt.Sprintf(" with a spectrum of nothing at %d", i)
		wantFailing(t, []failing{
			{"UnmixOnce" + what, fails(impl.UnmixOnce(dull, library, []float32{1, 1, 1}))},
			{"Unmix" + what, fails(impl.Unmix(dull, library, 1))},
			{"UnmixShared" + what, fails(impl.UnmixShared([][]float32{dull}, library, 1, 1))},
			{"RankLibrary" + what, fails(impl.RankLibrary(dull, library))},
			{"OddSpectrum" + what, fails(impl.OddSpectrum(library))},
			{"PurestOf" + what, fails(impl.PurestOf(library, 3))},
		})
		_, ok := impl.PurestOf(library, 2)
		wantBool(t, "PurestOf two of them", ok, true)
	}
}

func TestMixturesThatAreNotFinite(t *testing.T) {
	wantFailing(t, []failing{
		{"MixOf of a product too great", fails(impl.MixOf([][]float32{{1e30}}, []float32{1e10}))},
		{"MixOf of a sum too great", fails(impl.MixOf([][]float32{{2e38}, {2e38}}, []float32{1, 1}))},
		{"MixOf of sums on the way", fails(impl.MixOf([][]float32{{2e38}, {2e38}, {-2e38}}, []float32{1, 1, 1}))},
		{"MeanSpectrum of a sum too great", fails(impl.MeanSpectrum([][]float32{{2e38}, {2e38}}))},
		{"OddSpectrum of a sum too great", fails(impl.OddSpectrum([][]float32{{2e38, 1}, {2e38, 1}}))},
		{"UnmixOnce of a mixture too great", fails(impl.UnmixOnce([]float32{1}, [][]float32{{1e10}}, []float32{1e30}))},
		{"UnmixOnce to a share too great", fails(impl.UnmixOnce([]float32{1e30}, [][]float32{{1e-15}}, []float32{0}))},
		{"Unmix to a share too great", fails(impl.Unmix([]float32{1e30}, [][]float32{{1e-15}}, 1))},
		{"Unmix of what is too far", fails(impl.Unmix([]float32{-1e30}, [][]float32{{1}}, 1))},
		{"UnmixShared of what is too far", fails(impl.UnmixShared([][]float32{{-1e30}}, [][]float32{{1}}, 1, 1))},
		{"UnmixOnce by squares too small", fails(impl.UnmixOnce([]float32{1}, [][]float32{{1e-30}}, []float32{0}))},
		{"PurestOf squares too small", fails(impl.PurestOf([][]float32{{1e-30}}, 1))},
	})
	wantTold(t, []told{
		{"UnmixOnce of what is too far", say(impl.UnmixOnce([]float32{-1e30}, [][]float32{{1}}, []float32{0})), say([]float32{0}, true)},
		{"PurestOf great ones", say(impl.PurestOf([][]float32{{1e18, 0}, {0, 1e19}}, 2)), "[1 0] true "},
	})
}

func TestCountsOfPurestSpectra(t *testing.T) {
	for many := 1; many <= 8; many++ {
		library := alone(many)
		var order []int64
		for i := range many {
			order = append(order, int64(many-1-i))
		}
		for count := int64(-1); count <= 10; count++ {
			purest, ok := impl.PurestOf(library, count)
			what := fmt.Sprintf("PurestOf %d of %d", count, many)
			if count < 1 || count > int64(many) {
				wantFailing(t, []failing{{what, fails(purest, ok)}})
				continue
			}
			wantBool(t, what, ok && slices.Equal(purest, order[:count]), true)
		}
		for _, count := range wrongCounts(1, 8) {
			wantFailing(t, []failing{{"PurestOf of wrong counts", fails(impl.PurestOf(library, count))}})
		}
	}
	twins := [][]float32{{1, 2, 2}, {1, 2, 2}, {2, 1, -2}}
	wantTold(t, []told{{"PurestOf twins, the first ones", say(impl.PurestOf(twins, 2)), "[0 2] true "}})
	wantFailing(t, []failing{
		{"PurestOf more than there are", fails(impl.PurestOf(twins, 3))},
		{"PurestOf nothing", fails(impl.PurestOf([][]float32{{0, 0}, {minusZero, 0}}, 1))},
		{"PurestOf more numbers than places", fails(impl.PurestOf([][]float32{{1}, {2}}, 2))},
	})
}

// TestPurestSpectraMakeTheOthers mixes some spectra that are far from each other: these are taken first.
func TestPurestSpectraMakeTheOthers(t *testing.T) {
	w := &words{81}
	for range 500 {
		pure := 1 + w.below(4)
		many := make([][]float32, pure)
		for i := range many {
			many[i] = setAt(repeatNumber(0, 10), i, w.between(1, 2))
			many[i][4+w.below(6)] = w.between(-0.125, 0.125)
		}
		for len(many) < pure+w.below(8-pure+1) {
			shares := make([]float32, pure)
			for i := range shares {
				shares[i] = w.between(0, 0.25)
			}
			mix, _ := impl.MixOf(many[:pure], shares)
			many = append(many, mix)
		}
		order := upTo(len(many))
		shuffle(w, order)
		shuffled, want := make([][]float32, len(many)), []int64{}
		for i, x := range order {
			shuffled[i] = many[int(x)]
			if int(x) < pure {
				want = append(want, int64(i))
			}
		}
		purest, ok := impl.PurestOf(shuffled, int64(pure))
		slices.Sort(purest)
		wantBool(t, fmt.Sprintf("PurestOf %v", shuffled), ok && slices.Equal(purest, want), true)
	}
}

// TestRanksDescend holds them against likes, of which the first ones of equal ones come first.
func TestRanksDescend(t *testing.T) {
	w := &words{82}
	for range 2000 {
		list, library := []float32{1, 2, float32(w.below(3))}, make([][]float32, 1+w.below(8))
		for i := range library {
			library[i] = []float32{float32(w.below(3)), 1, float32(w.below(3) - 1)}
		}
		order, ok := impl.RankLibrary(list, library)
		wantBool(t, "RankLibrary", ok && len(order) == len(library), true)
		seen := map[int64]bool{}
		for i, k := range order {
			seen[k] = true
			if i == 0 {
				continue
			}
			before, _ := impl.LikeOf(list, library[order[i-1]])
			like, _ := impl.LikeOf(list, library[k])
			wantBool(t, "ranks descend, the first of equal ones first", before > like || before == like && order[i-1] < k, true)
		}
		wantBool(t, "all are ranked", len(seen) == len(library), true)
	}
}

// TestOddOnesAreTheFirstLeastAlike looks at all that are alike.
func TestOddOnesAreTheFirstLeastAlike(t *testing.T) {
	w := &words{83}
	for range 2000 {
		many := make([][]float32, 1+w.below(8))
		for i := range many {
			many[i] = []float32{float32(1 + w.below(3)), 1, float32(w.below(3))}
		}
		mean, _ := impl.MeanSpectrum(many)
		want, least := 0, float32(9)
		for i, spectrum := range many {
			if like, _ := impl.LikeOf(spectrum, mean); like < least {
				want, least = i, like
			}
		}
		wantTold(t, []told{{fmt.Sprintf("OddSpectrum of %v", many), say(impl.OddSpectrum(many)), say(int64(want), true)}})
	}
}

// TestWorkersOnMixtures makes the same with any number of them.
func TestWorkersOnMixtures(t *testing.T) {
	w := &words{84}
	for count := range 11 {
		many, first := make([][]float32, count), make([]float32, count)
		for i := range many {
			many[i] = anyScan(w, 6)
			shares, _, _ := impl.Unmix(many[i], threeColours, 5)
			first[i] = shares[0]
		}
		for _, workers := range []int64{math.MinInt64, -1, 0, 1, 2, 3, 7, 8, 9, 1 << 32, math.MaxInt64} {
			got, ok := impl.UnmixShared(many, threeColours, 5, workers)
			what := fmt.Sprintf("%d lists by %d workers", count, workers)
			if count > 0 && (count > 8 || workers < 1 || workers > 8) {
				wantFailing(t, []failing{{what, fails(got, ok)}})
				continue
			}
			wantTold(t, []told{{what, say(got, ok), say(first, true)}})
		}
	}
	for workers := int64(1); workers <= 8; workers++ {
		for i := range 8 {
			many := slices.Repeat([][]float32{reds}, 8)
			many[i] = []float32{1}
			wantFailing(t, []failing{{"UnmixShared of a list that is none", fails(impl.UnmixShared(many, threeColours, 1, workers))}})
		}
	}
	wantTold(t, []told{
		{"UnmixShared of none, whatever the others are", say(impl.UnmixShared(nil, nil, -1, 99)), "true "},
		{"UnmixShared of an empty list of them", say(impl.UnmixShared([][]float32{}, [][]float32{{notANumber}}, 0, 0)), "true "},
	})
}

func TestPhasesThatAreRefused(t *testing.T) {
	for _, n := range []int{129, 130, 257, 1000} {
		wantFailing(t, []failing{
			{fmt.Sprintf("TurnPhases of %d", n), fails(impl.TurnPhases(repeatComplex(1, n), 0.5))},
			{fmt.Sprintf("MeanPhases of %d", n), fails(impl.MeanPhases(repeatComplex(1, n)))},
		})
	}
	for _, x := range notFinite() {
		for _, odd := range []complex64{complex(x, 1), complex(1, x), complex(x, x)} {
			for i := range 3 {
				phases := []complex64{1, 2, 3i}
				phases[i] = odd
				wantFailing(t, []failing{
					{"TurnPhases of " + say(phases), fails(impl.TurnPhases(phases, 0.5))},
					{"MeanPhases of " + say(phases), fails(impl.MeanPhases(phases))},
				})
			}
		}
		wantFailing(t, []failing{
			{"TurnPhases by " + say(x), fails(impl.TurnPhases([]complex64{1}, x))},
			{"TurnPhases of none by " + say(x), fails(impl.TurnPhases(nil, x))},
		})
	}
	wantFailing(t, []failing{
		{"TurnPhases to a part too great", fails(impl.TurnPhases([]complex64{0, complex(greatest, greatest)}, 0.125))},
		{"MeanPhases of none", fails(impl.MeanPhases(nil))},
		{"MeanPhases of an empty list", fails(impl.MeanPhases([]complex64{}))},
		{"MeanPhases of a real part too great", fails(impl.MeanPhases([]complex64{3e38, 3e38}))},
		{"MeanPhases of an imaginary part too great", fails(impl.MeanPhases([]complex64{3e38i, 3e38i}))},
	})
	wantTold(t, []told{
		{"TurnPhases of none", say(impl.TurnPhases(nil, 0.5)), "true "},
		{"TurnPhases of 128", say(impl.TurnPhases(repeatComplex(2, 128), 1)), say(repeatComplex(2, 128), true)},
		{"MeanPhases of 128", say(impl.MeanPhases(repeatComplex(2+1i, 128))), say(complex64(2+1i), true)},
	})
}
