package tests

import (
	"fmt"
	"math"
	"reflect"
	"testing"

	"loop.example/g01403/impl"
)

// mixture are arguments of functions of chapter 7 that are lists.
type mixture struct {
	list, other, shares []float32
	library, many       [][]float32
	phases              []complex64
	saved               []impl.Saved
}

// sayMixed says what every function of chapter 7 makes of its arguments.
func sayMixed(d mixture, x, y float32, n, k int64) string {
	return say(impl.NormalOf(d.list)) + say(impl.ScaledOf(d.list)) + say(impl.SmoothMean(d.list, n)) + say(impl.SmoothCurve(d.list)) +
		say(impl.BaseOf(d.list, n)) + say(impl.LessBase(d.list, k)) + say(impl.ShiftList(d.list, n)) + say(impl.ShiftList(d.list, -k)) + say(impl.BestShift(d.list, d.other, n)) +
		say(impl.AtSteps(d.list, x, y, n)) + say(impl.AtSteps(d.other, y, x, k)) + say(impl.LikeOf(d.list, d.other)) + say(impl.FarOf(d.list, d.other)) +
		say(impl.AreSpectra(d.library), impl.AreSpectra(d.many)) + say(impl.MeanSpectrum(d.library)) + say(impl.OddSpectrum(d.library)) + say(impl.OddSpectrum(d.many)) +
		say(impl.RankLibrary(d.list, d.library)) + say(impl.MixOf(d.library, d.shares)) + say(impl.UnmixOnce(d.list, d.library, d.shares)) +
		say(impl.Unmix(d.list, d.library, n)) + say(impl.Unmix(d.other, d.many, k)) + say(impl.PartsOfOne(d.shares)) + say(impl.PurestOf(d.library, n)) + say(impl.PurestOf(d.many, k)) +
		say(impl.UnmixShared(d.many, d.library, n, k)) + say(impl.UnmixShared(d.many, d.library, k, n)) + say(impl.TurnPhases(d.phases, x)) + say(impl.MeanPhases(d.phases)) + saySaved(d)
}

// saySaved says what the functions for files make of them, and of what is stored, bent and cut.
func saySaved(d mixture) string {
	all, ok := impl.StoreAll(d.saved)
	said := say(impl.SameSaved(d.saved, d.saved), all, ok) + say(impl.RecoverAll(all)) + say(impl.RecoverAll(all+"LIN1")) + say(impl.RecoverAll(all[:len(all)/2]))
	for _, s := range d.saved {
		bytes, ok := impl.StoreSaved(s)
		said += say(impl.ValidSaved(s), bytes, ok) + say(impl.LoadSaved(bytes)) + say(impl.LoadSaved(bytes+"x"))
	}
	return said
}

// someMixed returns arguments that are as they must be.
func someMixed() mixture {
	saved := func(s impl.Saved) impl.Saved {
		s.Lines, s.List, s.Phases = append([]impl.Line{}, s.Lines...), append([]float32{}, s.List...), append([]complex64{}, s.Phases...)
		return s
	}
	clone := func(lists ...[]float32) [][]float32 {
		var all [][]float32
		for _, list := range lists {
			all = append(all, append([]float32{}, list...))
		}
		return all
	}
	lists := clone(dull, blues)
	return mixture{
		lists[0], lists[1], []float32{0.5, 0.25, 2}, clone(threeColours...), clone(blues, dull, greens),
		[]complex64{1, 2i, complex(-0.3, 0.7)}, []impl.Saved{saved(richSaved()), saved(smallSaved()), saved(bareSaved())},
	}
}

// oddMixed are of any numbers.
func oddMixed(x, y, z float32, n int64) mixture {
	return mixture{
		[]float32{x, 1, y}, []float32{z, y, 2}, []float32{y, z}, [][]float32{{1, x, 2}, {y, 1, z}}, [][]float32{{x, y, z}, {1, 2, 3}},
		[]complex64{complex(x, y), complex(1, z)},
		[]impl.Saved{{Name: "a", Lines: []impl.Line{line(x, y, z, n)}, List: []float32{1, x}, Phases: []complex64{complex(y, z)}}, {Name: "b", List: []float32{y}}},
	}
}

// TestMixturesReturn calls every function of chapter 7 with all kinds of numbers, twice.
func TestMixturesReturn(t *testing.T) {
	integers := []int64{math.MinInt64, -129, -128, -1, 0, 1, 2, 3, 4, 8, 9, 64, 65, 128, 129, math.MaxInt64}
	bits := strangeBits()
	for i, a := range bits {
		for j, b := range bits {
			x, y, z := num(a), num(b), num(bits[(3*i+j)%len(bits)])
			n, k := integers[(i*7+j)%len(integers)], integers[(i+5*j)%len(integers)]
			odd, fine := oddMixed(x, y, z, k), someMixed()
			twice(t, fmt.Sprintf("mixtures of %08x %08x %d %d", a, b, n, k), func() string {
				return sayMixed(odd, x, y, n, k) + sayMixed(fine, x, y, n, k) + sayMixed(odd, 0.5, 0.25, 2, 1)
			})
		}
	}
}

// TestAnyBytesReturn reads bytes of any kind, twice.
func TestAnyBytesReturn(t *testing.T) {
	w, whole := &words{86}, bytesOf(richSaved())
	for range 5000 {
		bytes := []byte(whole)
		for range 1 + w.below(4) {
			bytes[w.below(len(bytes))] = byte(w.next())
		}
		text := string(bytes[w.below(2)*4 : w.below(len(bytes)-4)+4])
		twice(t, fmt.Sprintf("bytes %q", text), func() string {
			return say(impl.LoadSaved(text)) + say(impl.LoadSaved("LIN1"+text)) + say(impl.RecoverAll(text)) + say(impl.RecoverAll(whole+text))
		})
	}
}

// TestListsOfMixturesAreNotModified looks at the memory of lists, and at what comes behind their ends.
func TestListsOfMixturesAreNotModified(t *testing.T) {
	d := someMixed()
	var memory []any
	keep := func(list *[]float32) {
		var all []float32
		*list, all = withRoom(*list, 80)
		memory = append(memory, all)
	}
	for _, list := range []*[]float32{&d.list, &d.other, &d.shares, &d.saved[0].List} {
		keep(list)
	}
	for i := range d.library {
		keep(&d.library[i])
		keep(&d.many[i])
	}
	library, allLibrary := withRoom(d.library, []float32{81})
	many, allMany := withRoom(d.many, []float32{82})
	phases, allPhases := withRoom(d.phases, 83i)
	savedPhases, allSavedPhases := withRoom(d.saved[0].Phases, 84i)
	lines, allLines := withRoom(d.saved[0].Lines, line(85, 85, 85, 3))
	d.saved[0].Phases, d.saved[0].Lines = savedPhases, lines
	saved, allSaved := withRoom(d.saved, impl.Saved{Name: "behind"})
	d.library, d.many, d.phases, d.saved = library, many, phases, saved
	memory = append(memory, allLibrary, allMany, allPhases, allSavedPhases, allLines, allSaved)
	before := fmt.Sprint(memory)
	for n := range int64(12) {
		first := sayMixed(d, 0.25, 0.5, n, 1+n%5)
		if fmt.Sprint(memory) != before {
			t.Fatalf("lists are modified: %s, and then %s", before, fmt.Sprint(memory))
		}
		if again := sayMixed(d, 0.25, 0.5, n, 1+n%5); again != first {
			t.Errorf("%s, and then %s", first, again)
		}
	}
}

// TestMixturesAreNew writes over all that functions return, and looks whether an argument or another result changes.
func TestMixturesAreNew(t *testing.T) {
	d := someMixed()
	first := sayMixed(d, 0.25, 0.5, 3, 2)
	numbers, integers, phases := overwriter[float32](t, 99), overwriter[int64](t, 99), overwriter[complex64](t, 99)
	numbers(impl.NormalOf(d.list))
	numbers(impl.ScaledOf(d.list))
	numbers(impl.SmoothMean(d.list, 0))
	numbers(impl.SmoothMean(d.list, 2))
	numbers(impl.SmoothCurve(d.list))
	numbers(impl.SmoothCurve(d.shares))
	for rounds := range int64(3) {
		numbers(impl.BaseOf(d.list, rounds))
		numbers(impl.LessBase(d.list, rounds))
	}
	for by := int64(-7); by <= 7; by++ {
		numbers(impl.ShiftList(d.list, by))
	}
	numbers(impl.AtSteps(d.list, 0, 1, 6))
	numbers(impl.MeanSpectrum(d.library))
	numbers(impl.MeanSpectrum(d.library[:1]))
	integers(impl.RankLibrary(d.list, d.library))
	numbers(impl.MixOf(d.library, d.shares))
	numbers(impl.MixOf(d.library[:1], []float32{1}))
	numbers(impl.UnmixOnce(d.list, d.library, d.shares))
	shares, _, ok := impl.Unmix(d.list, d.library, 3)
	numbers(shares, ok)
	numbers(impl.PartsOfOne(d.shares))
	numbers(impl.PartsOfOne([]float32{1}))
	integers(impl.PurestOf(d.library, 3))
	numbers(impl.UnmixShared(d.many, d.library, 2, 2))
	phases(impl.TurnPhases(d.phases, 0))
	phases(impl.TurnPhases(d.phases, 0.5))
	if again := sayMixed(d, 0.25, 0.5, 3, 2); again != first {
		t.Errorf("results share memory: %s, and then %s", first, again)
	}
	if !reflect.DeepEqual(d, someMixed()) {
		t.Errorf("arguments share memory with results: %v", d)
	}
}

// TestSavedAreNew writes over one part of what is recovered after another: no other one changes.
func TestSavedAreNew(t *testing.T) {
	want := []impl.Saved{richSaved(), smallSaved(), richSaved()}
	text, _ := impl.StoreAll(want)
	saved, _, _ := impl.RecoverAll(text)
	again, _, _ := impl.RecoverAll(text)
	one, ok := impl.LoadSaved(bytesOf(richSaved()))
	wantBool(t, "LoadSaved", ok && len(saved) == len(want), true)
	lines, numbers, phases := overwriter(t, line(99, 99, 99, 99)), overwriter[float32](t, 99), overwriter[complex64](t, 99)
	for i := range saved {
		phases(saved[i].Phases, true)
		wantTold(t, []told{{"lines and numbers beside other phases", say(saved[i].Lines, saved[i].List), say(want[i].Lines, want[i].List)}})
		numbers(saved[i].List, true)
		wantTold(t, []told{{"lines beside other numbers", say(saved[i].Lines), say(want[i].Lines)}})
		lines(saved[i].Lines, true)
		wantTold(t, []told{{"what is recovered behind", say(saved[i+1:]), say(want[i+1:])}})
	}
	wantTold(t, []told{{"what is loaded", say(one), say(richSaved())}, {"what is recovered again", say(again), say(want)}})
}

func TestNilAndEmptyListsOfMixturesAreOneValue(t *testing.T) {
	empty := mixture{[]float32{}, []float32{}, []float32{}, [][]float32{}, [][]float32{}, []complex64{}, []impl.Saved{}}
	for n := range int64(4) {
		if first, second := sayMixed(mixture{}, 1, 2, n, 1), sayMixed(empty, 1, 2, n, 1); first != second {
			t.Errorf("nil gives %s, and what is empty gives %s", first, second)
		}
	}
	bare, other := bareSaved(), bareSaved()
	bare.Lines, bare.Phases = []impl.Line{}, []complex64{}
	wantTold(t, []told{{"what is stored without lines and phases", say(impl.StoreSaved(bare)), say(impl.StoreSaved(other))}})
}
