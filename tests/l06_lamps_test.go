package tests

import (
	"fmt"
	"math"
	"slices"
	"testing"

	"loop.example/g01403/impl"
)

// notPositive are no finite numbers greater than 0.
func notPositive() []float32 {
	return append([]float32{0, minusZero}, append(belowZero(), notFinite()...)...)
}

// upTo returns 0, 1, 2 and so on, n of them.
func upTo(n int) []float32 {
	list := make([]float32, n)
	for i := range list {
		list[i] = float32(i)
	}
	return list
}

// TestCountsOfLamps tells how many there may be, up to 16.
func TestCountsOfLamps(t *testing.T) {
	for _, n := range []int{0, 1, 2, 3, 4, 15, 16, 17, 100} {
		places, waves := upTo(n), repeatNumber(5, n)
		_, _, line := impl.LampLine(places, waves)
		wantBool(t, fmt.Sprintf("LampLine of %d lamps", n), line, n >= 2 && n <= 16)
		_, curve := impl.LampCurve(places, waves)
		wantBool(t, fmt.Sprintf("LampCurve of %d lamps", n), curve, n >= 3 && n <= 16)
		rests, _, ok := impl.LampRests([]float32{5}, places, waves)
		wantBool(t, fmt.Sprintf("LampRests of %d lamps", n), ok && len(rests) == n, n >= 1 && n <= 16)
	}
}

func TestPlacesAndWavesThatAreRefused(t *testing.T) {
	curve, places, waves := []float32{1, 2}, []float32{1, 2, 4, 3}, []float32{2, 1, 5, 7}
	for _, other := range [][]float32{nil, {2}, {2, 1, 5}, {2, 1, 5, 7, 8}} {
		what := fmt.Sprintf(" of 4 beside %d", len(other))
		wantFailing(t, []failing{
			{"LampLine" + what, fails(impl.LampLine(places, other))},
			{"LampLine, waves" + what, fails(impl.LampLine(other, waves))},
			{"LampCurve" + what, fails(impl.LampCurve(places, other))},
			{"LampCurve, waves" + what, fails(impl.LampCurve(other, waves))},
			{"LampRests" + what, fails(impl.LampRests(curve, places, other))},
			{"LampRests, waves" + what, fails(impl.LampRests(curve, other, waves))},
		})
	}
	for _, x := range notFinite() {
		for i := range places {
			what := fmt.Sprintf(" of %s at %d", say(x), i)
			wantFailing(t, []failing{
				{"LampLine, places" + what, fails(impl.LampLine(setAt(places, i, x), waves))},
				{"LampLine, waves" + what, fails(impl.LampLine(places, setAt(waves, i, x)))},
				{"LampCurve, places" + what, fails(impl.LampCurve(setAt(places, i, x), waves))},
				{"LampCurve, waves" + what, fails(impl.LampCurve(places, setAt(waves, i, x)))},
				{"LampRests, places" + what, fails(impl.LampRests([]float32{1}, setAt(places, i, x), waves))},
				{"LampRests, waves" + what, fails(impl.LampRests(curve, places, setAt(waves, i, x)))},
			})
		}
	}
}

// TestLampsThatTellNoLine stand at too few different places, or too far away.
func TestLampsThatTellNoLine(t *testing.T) {
	wantFailing(t, []failing{
		{"LampLine of one place", fails(impl.LampLine([]float32{3, 3}, []float32{1, 2}))},
		{"LampLine of one place and wave", fails(impl.LampLine([]float32{3, 3, 3}, []float32{1, 1, 1}))},
		{"LampLine of places too near for their squares", fails(impl.LampLine([]float32{0, 1e-30}, []float32{1, 2}))},
		{"LampLine of places too far for their sum", fails(impl.LampLine([]float32{3e38, 2e38}, []float32{1, 2}))},
		{"LampLine of waves too great for their sum", fails(impl.LampLine([]float32{1, 2}, []float32{3e38, 2e38}))},
		{"LampLine of a slope that is not finite", fails(impl.LampLine([]float32{0, 1e-10}, []float32{0, 1e30}))},
		{"LampLine of a base that is not finite", fails(impl.LampLine([]float32{1e19, 1.0001e19}, []float32{-3e38, 3e38}))},
		{"LampCurve of one place", fails(impl.LampCurve([]float32{3, 3, 3}, []float32{1, 2, 3}))},
		{"LampCurve of two places", fails(impl.LampCurve([]float32{0, 0, 1, 1}, []float32{1, 2, 3, 4}))},
		{"LampCurve of 0 only", fails(impl.LampCurve([]float32{0, 0, 0}, []float32{1, 2, 3}))},
		{"LampCurve of places too far for their powers", fails(impl.LampCurve([]float32{1e10, 2e10, 3e10}, []float32{1, 2, 3}))},
		{"LampCurve of waves too great for their sum", fails(impl.LampCurve([]float32{0, 1, 2}, repeatNumber(2e38, 3)))},
	})
}

// TestLampsOnACurveTellIt finds lines and curves again, and leaves nothing then, nearly.
func TestLampsOnACurveTellIt(t *testing.T) {
	w := &words{61}
	for range 1000 {
		want := []float32{w.between(-2, 2), w.between(-2, 2), w.between(-2, 2)}
		var places, lines, curves []float32
		for i := range 3 + w.below(14) {
			place := float32(i)/4 - 1 + w.between(0, 0.125)
			onLine, _ := impl.WaveAt(want[:2], place)
			onCurve, _ := impl.WaveAt(want, place)
			places, lines, curves = append(places, place), append(lines, onLine), append(curves, onCurve)
		}
		base, slope, ok := impl.LampLine(places, lines)
		wantBool(t, "LampLine", ok, true)
		nearNumbers(t, "the line of lamps", []float32{base, slope}, want[:2], 1e-4)
		curve, ok := impl.LampCurve(places, curves)
		wantBool(t, "LampCurve", ok, true)
		nearNumbers(t, "the curve of lamps", curve, want, 0.01)
		_, root, ok := impl.LampRests(curve, places, curves)
		wantBool(t, "LampRests", ok && root < 1e-3, true)
	}
}

func TestCurvesThatAreRefused(t *testing.T) {
	for _, n := range []int{0, 1, 2, 3, 4, 100} {
		curve := append(repeatNumber(0, n), 1)[:n]
		_, ok := impl.WaveAt(curve, 1)
		wantBool(t, fmt.Sprintf("WaveAt on a curve of %d", n), ok, n >= 1 && n <= 3)
		_, _, ok = impl.LampRests(curve, []float32{1}, []float32{1})
		wantBool(t, fmt.Sprintf("LampRests of a curve of %d", n), ok, n >= 1 && n <= 3)
	}
	wantFailing(t, []failing{
		{"PlaceOf on no curve", fails(impl.PlaceOf(nil, 0, -1, 1, 1))},
		{"PlaceOf on a curve of 4", fails(impl.PlaceOf([]float32{0, 1, 0, 0}, 0, -1, 1, 1))},
		{"WaveAt that is not finite", fails(impl.WaveAt([]float32{0, 0, 1}, 1e20))},
		{"WaveAt that is not finite on the way", fails(impl.WaveAt([]float32{0, -1e30, 1e30}, greatest))},
		{"WaveAt that becomes too great", fails(impl.WaveAt([]float32{greatest, greatest}, 1))},
		{"LampRests of waves that are not finite", fails(impl.LampRests([]float32{0, 0, 1}, []float32{0, 1e20}, []float32{1, 2}))},
		{"LampRests that are not finite", fails(impl.LampRests([]float32{-greatest}, []float32{0}, []float32{greatest}))},
		{"LampRests whose squares are not finite", fails(impl.LampRests([]float32{0}, []float32{0, 1}, []float32{1, 1e20}))},
	})
	for _, x := range notFinite() {
		for i := range 3 {
			what := fmt.Sprintf(" of %s at %d", say(x), i)
			odd := setAt([]float32{1, 2, 3}, i, x)
			wantFailing(t, []failing{
				{"WaveAt" + what, fails(impl.WaveAt(odd, 0.5))},
				{"WaveAt of 0" + what, fails(impl.WaveAt(odd, 0))},
				{"LampRests" + what, fails(impl.LampRests(odd, []float32{0}, []float32{1}))},
				{"PlaceOf" + what, fails(impl.PlaceOf(odd, 2, 0, 1, 3))},
			})
		}
		wantFailing(t, []failing{
			{"WaveAt, place" + say(x), fails(impl.WaveAt([]float32{1}, x))},
			{"PlaceOf, wave" + say(x), fails(impl.PlaceOf([]float32{0, 1}, x, -1, 1, 3))},
			{"PlaceOf, low" + say(x), fails(impl.PlaceOf([]float32{0, 1}, 0, x, 1, 3))},
			{"PlaceOf, high" + say(x), fails(impl.PlaceOf([]float32{0, 1}, 0, -1, x, 3))},
			{"PlaceOf, both" + say(x), fails(impl.PlaceOf([]float32{0, 1}, 0, x, x, 3))},
		})
	}
}

// TestPlacesBetweenOthers are told only where one end is less than the wave, and the other one is not.
func TestPlacesBetweenOthers(t *testing.T) {
	rising, falling := []float32{0, 1}, []float32{0, -1}
	wantFailing(t, []failing{
		{"PlaceOf of a wave above both", fails(impl.PlaceOf(rising, 9, 0, 4, 5))},
		{"PlaceOf of a wave below both", fails(impl.PlaceOf(rising, -1, 0, 4, 5))},
		{"PlaceOf of the lower wave of a rising line", fails(impl.PlaceOf(rising, 0, 0, 4, 5))},
		{"PlaceOf of the lower wave of a falling line", fails(impl.PlaceOf(falling, -4, 0, 4, 5))},
		{"PlaceOf of a wave of both", fails(impl.PlaceOf([]float32{0, 0, 1}, 4, -2, 2, 5))},
		{"PlaceOf of a wave between that both are above", fails(impl.PlaceOf([]float32{0, 0, 1}, 1, -2, 2, 5))},
		{"PlaceOf of a wave everywhere", fails(impl.PlaceOf([]float32{3}, 3, 0, 1, 5))},
		{"PlaceOf of turned ends", fails(impl.PlaceOf(rising, 2, 4, 0, 5))},
		{"PlaceOf of one end", fails(impl.PlaceOf(rising, 0, 0, 0, 5))},
		{"PlaceOf of two zeros", fails(impl.PlaceOf(rising, 0, minusZero, 0, 5))},
		{"PlaceOf of a wave that is not finite at the upper end", fails(impl.PlaceOf([]float32{0, 0, 1}, 1, 0, 1e20, 5))},
		{"PlaceOf of a wave above one that is not finite", fails(impl.PlaceOf([]float32{0, 0, 1}, 1, 2, 1e20, 5))},
		{"PlaceOf of a wave that is not finite at the lower end", fails(impl.PlaceOf([]float32{0, 0, -1}, -1, -1e20, 0, 5))},
		{"PlaceOf of a wave below one that is not finite", fails(impl.PlaceOf([]float32{0, 0, -1}, -0.5, -1e20, 1, 5))},
		{"PlaceOf whose first middle is not finite", fails(impl.PlaceOf([]float32{0, 1e-30}, 2.5e8, 2e38, 3e38, 1))},
		{"PlaceOf whose last middle is not finite", fails(impl.PlaceOf([]float32{0, 1e-30}, 2e8, 1e38, 2.4e38, 1))},
		{"PlaceOf on a curve that is too high between", fails(impl.PlaceOf([]float32{0, 6 * 0x1p125, -0x1p125}, 0, -0.125, 6, 9))},
	})
	for _, rounds := range []int64{math.MinInt64, -1, 0, 33, 1 << 32, math.MaxInt64} {
		wantFailing(t, []failing{{fmt.Sprintf("PlaceOf in %d rounds", rounds), fails(impl.PlaceOf(rising, 1, 0, 4, rounds))}})
	}
	for rounds := int64(1); rounds <= 32; rounds++ {
		within := 2 / math.Pow(2, float64(rounds))
		up, ok := impl.PlaceOf(rising, 0.7, 0, 4, rounds)
		wantBool(t, "PlaceOf", ok, true)
		near(t, fmt.Sprintf("a place on a rising line in %d rounds", rounds), float64(up), 0.7, within+1e-7)
		down, ok := impl.PlaceOf(falling, -0.7, 0, 4, rounds)
		wantBool(t, "PlaceOf", ok, true)
		near(t, fmt.Sprintf("a place on a falling line in %d rounds", rounds), float64(down), 0.7, within+1e-7)
	}
	wantTold(t, []told{
		{"PlaceOf on a curve that is high between", say(impl.PlaceOf([]float32{0, 6 * 0x1p124, -0x1p124}, 0, -0.125, 6, 1)), say(float32(1.40625), true)},
		{"PlaceOf far away", say(impl.PlaceOf([]float32{0, 1e-30}, 1.2e8, 0x1p125, 0x1p127, 1)), say(float32(13*0x1p123), true)},
		{"PlaceOf of the upper wave of a rising line", say(impl.PlaceOf(rising, 4, 0, 4, 2)), say(float32(3.5), true)},
		{"PlaceOf of the upper wave of a falling line", say(impl.PlaceOf(falling, 0, 0, 4, 2)), say(float32(0.5), true)},
	})
}

func TestGratingsThatAreRefused(t *testing.T) {
	for _, x := range notPositive() {
		wantFailing(t, []failing{
			{"GratingOut, wave " + say(x), fails(impl.GratingOut(x, 1, 0, 0))},
			{"GratingOut, gap " + say(x), fails(impl.GratingOut(1, x, 0, 0))},
			{"GratingOut, both " + say(x), fails(impl.GratingOut(x, x, 0, 1))},
			{"GratingOrders, wave " + say(x), fails(impl.GratingOrders(x, 1, 0))},
			{"GratingOrders, gap " + say(x), fails(impl.GratingOrders(1, x, 0))},
		})
	}
	for _, x := range notFinite() {
		wantFailing(t, []failing{
			{"GratingOut, sine " + say(x), fails(impl.GratingOut(1, 1, x, 0))},
			{"GratingOrders, sine " + say(x), fails(impl.GratingOrders(1, 1, x))},
			{"FreeRange" + say(x), fails(impl.FreeRange(x, 1))},
			{"ManySlits" + say(x), fails(impl.ManySlits(x, 1))},
		})
	}
	for _, order := range []int64{math.MinInt64, -1 << 32, -101, 101, 1 << 32, math.MaxInt64} {
		wantFailing(t, []failing{
			{fmt.Sprintf("GratingOut, order %d", order), fails(impl.GratingOut(0.001, 1, 0, order))},
			{fmt.Sprintf("FreeRange, order %d", order), fails(impl.FreeRange(1, order))},
			{fmt.Sprintf("ManySlits of %d", order), fails(impl.ManySlits(0.3, order))},
		})
	}
	for _, n := range []int64{-1, 0} {
		wantFailing(t, []failing{
			{fmt.Sprintf("FreeRange, order %d", n), fails(impl.FreeRange(1, n))},
			{fmt.Sprintf("ManySlits of %d", n), fails(impl.ManySlits(0.3, n))},
			{fmt.Sprintf("no turns of %d slits", n), fails(impl.ManySlits(0, n))},
		})
	}
	wantFailing(t, []failing{
		{"GratingOut a little more than 1", fails(impl.GratingOut(1, 1, -1.0000001, 0))},
		{"GratingOut a little less than -1", fails(impl.GratingOut(1, 1, 1.0000001, 0))},
		{"GratingOut that is not finite", fails(impl.GratingOut(greatest, least, 0, 1))},
		{"GratingOut that is not finite, below", fails(impl.GratingOut(greatest, least, 0, -1))},
		{"GratingOut of an order too high for the wave", fails(impl.GratingOut(greatest, greatest, 2, 2))},
		{"65 slits", fails(impl.ManySlits(0.3, 65))},
	})
}

// TestOrdersOfGratings are those that are sent out, from -100 to 100.
func TestOrdersOfGratings(t *testing.T) {
	var all []int64
	for order := int64(-100); order <= 100; order++ {
		all = append(all, order)
	}
	for _, wave := range []float32{0.01, 0.001, least} {
		orders, ok := impl.GratingOrders(wave, 1, 0)
		wantBool(t, "all orders", ok && slices.Equal(orders, all), true)
	}
	wantTold(t, []told{
		{"GratingOrders of none", say(impl.GratingOrders(1, 1, -102)), "[] true "},
		{"GratingOrders of waves that are not finite", say(impl.GratingOrders(greatest, least, 0.5)), "[0] true "},
		{"GratingOut of a sine beyond 1", say(impl.GratingOut(0.5, 1, 1.25, 1)), say(float32(-0.75), true)},
	})
	w := &words{62}
	for range 300 {
		wave, gap, sine := w.between(0.01, 1), w.between(0.125, 2), w.between(-1.5, 1.5)
		orders, ok := impl.GratingOrders(wave, gap, sine)
		wantBool(t, "GratingOrders", ok, true)
		for _, order := range all {
			out, sent := impl.GratingOut(wave, gap, sine, order)
			wantBool(t, fmt.Sprintf("the order %d of %v %v %v is sent out", order, wave, gap, sine), slices.Contains(orders, order), sent)
			if exact := float64(order)*float64(wave)/float64(gap) - float64(sine); sent {
				near(t, "the sine of an order", float64(out), exact, 1e-5)
			} else if math.Abs(exact) < 0.9999 {
				t.Errorf("the order %d of %v %v %v is not sent out", order, wave, gap, sine)
			}
		}
	}
}

// TestBrightSlits are brightest at whole turns, and dark between.
func TestBrightSlits(t *testing.T) {
	for n := int64(1); n <= 64; n++ {
		what := fmt.Sprintf("%d slits", n)
		for _, turns := range []float32{0, minusZero, 1e20, -greatest} {
			wantTold(t, []told{{what, say(impl.ManySlits(turns, n)), say(float32(1), true)}})
		}
		alone, ok := impl.ManySlits(0.3, 1)
		wantSum(t, "one slit", alone, ok, oneBits)
		for k := int64(1); k < n; k++ {
			dark, ok := impl.ManySlits(float32(k)/float32(n), n)
			wantBool(t, what, ok, true)
			near(t, fmt.Sprintf("%s at the dark %d", what, k), float64(dark), 0, 1e-10)
		}
		half, ok := impl.ManySlits(0.5/float32(n), n)
		wantBool(t, what, ok, true)
		sine := float64(n) * math.Sin(math.Pi/2/float64(n))
		near(t, what+" at half of the way to the dark", float64(half), 1/(sine*sine), 1e-6)
	}
	for order := int64(1); order <= 100; order++ {
		wantTold(t, []told{{"FreeRange", say(impl.FreeRange(-700, order)), say(float32(-700)/float32(order), true)}})
	}
}
