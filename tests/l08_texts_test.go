package tests

import (
	"fmt"
	"strings"
	"testing"

	"loop.example/g01403/impl"
)

// textOf is the text of numbers, told without the package.
func textOf(list ...float32) string {
	if len(list) == 0 {
		return "none"
	}
	words := make([]string, len(list))
	for i, x := range list {
		words[i] = fmt.Sprintf("%08x", bitsOf(x))
	}
	return strings.Join(words, ",")
}

func textOfSteps(s impl.Steps) string { return textOf(s.Edges...) + ";" + textOf(s.Heights...) }

func textOfPulse(p impl.Pulse) string { return textOf(p.Rate, p.Off, p.Turn, p.Time) }

func textOfComplex(list []complex64) string {
	var words []string
	for _, x := range list {
		words = append(words, fmt.Sprintf("%08x%08x", bitsOf(real(x)), bitsOf(imag(x))))
	}
	return strings.Join(words, ",")
}

// otherDesk is valid, and a new desk has nothing of it.
func otherDesk() impl.Desk {
	return impl.Desk{
		Steps: impl.Steps{Edges: []float32{-1, 0.5, 2}, Heights: []float32{1, 3, -2, 1}},
		Pulse: pulse(3, -4, 0.25, 1),
		Scan:  []float32{1, 9, 3, 3, 0.5},
	}
}

// edgeDesks are valid, with as few or as many numbers as there may be, or with strange ones.
func edgeDesks() []impl.Desk {
	return []impl.Desk{
		{Steps: impl.Steps{Heights: []float32{minusZero}}, Scan: []float32{minusZero, 0}},
		{Steps: evenSteps(11), Pulse: pulse(greatest, -greatest, greatest, greatest), Scan: repeatNumber(-greatest, 64)},
		{Steps: impl.Steps{Edges: []float32{-least, minusZero, least}, Heights: []float32{least, -least, 0, minusZero}}, Pulse: pulse(minusZero, minusZero, -least, minusZero), Scan: []float32{least, -least, minusZero}},
	}
}

// invalidDesks are valid but for one part.
func invalidDesks() []impl.Desk {
	list := []impl.Desk{{}}
	add := func(change func(d *impl.Desk)) {
		d := impl.NewDesk()
		change(&d)
		list = append(list, d)
	}
	for _, s := range invalidSteps() {
		add(func(d *impl.Desk) { d.Steps = s })
	}
	for _, p := range invalidPulses() {
		add(func(d *impl.Desk) { d.Pulse = p })
	}
	for _, n := range []int{0, 1, 65, 66, 128, 300} {
		add(func(d *impl.Desk) { d.Scan = repeatNumber(1, n) })
	}
	for _, x := range notFinite() {
		add(func(d *impl.Desk) { d.Scan = []float32{x, 1} })
		add(func(d *impl.Desk) { d.Scan = setAt(repeatNumber(1, 64), 63, x) })
	}
	return list
}

func TestNewDesk(t *testing.T) {
	d := impl.NewDesk()
	want := impl.Desk{Steps: impl.Steps{Edges: []float32{0, 1}, Heights: []float32{0, 2, 0}}, Pulse: pulse(1, 0, 0, 2), Scan: []float32{1, 1, 1, 1}}
	wantTold(t, []told{{"NewDesk", say(d), say(want)}})
	wantBool(t, "SameDesk of new ones", impl.SameDesk(d, want), true)
}

func TestValidDesk(t *testing.T) {
	for _, d := range append(edgeDesks(), impl.NewDesk(), otherDesk()) {
		wantBool(t, "ValidDesk of "+say(d), impl.ValidDesk(d), true)
	}
	for _, d := range invalidDesks() {
		wantBool(t, "ValidDesk of "+say(d), impl.ValidDesk(d), false)
	}
	for n := range 70 {
		d := impl.NewDesk()
		d.Scan = repeatNumber(3, n)
		wantBool(t, fmt.Sprintf("ValidDesk with a scan of %d", n), impl.ValidDesk(d), n >= 2 && n <= 64)
	}
}

// TestInvalidDesks gives them lines, also ones that would make them valid.
func TestInvalidDesks(t *testing.T) {
	lines := []string{"", "what", "steps", "scan", "pulse", "turn", "turns", "lines", "pad 64", "ratio 0 1", "height 00000000", "steps none;00000000", "pulse 00000000,00000000,00000000,00000000", "scan 3f800000,3f800000"}
	for _, d := range invalidDesks() {
		for _, line := range lines {
			what := fmt.Sprintf(" %q at %.90s", line, say(d))
			entry := fmt.Sprintf("%d %s\n", checkNumber(line), line)
			wantFailing(t, []failing{
				{"DeskCommand" + what, fails(impl.DeskCommand(d, line))},
				{"RunDesk" + what, fails(impl.RunDesk(d, line+"\n"))},
				{"RunJournal" + what, fails(impl.RunJournal(d, entry))},
			})
		}
		wantFailing(t, []failing{
			{"RunDesk without lines at " + say(d), fails(impl.RunDesk(d, ""))},
			{"RunJournal without lines at " + say(d), fails(impl.RunJournal(d, ""))},
		})
	}
}

// TestSameDesk changes one part after another.
func TestSameDesk(t *testing.T) {
	changes := map[string]func(d *impl.Desk){
		"edge":             func(d *impl.Desk) { d.Steps.Edges[1] = 2 },
		"sign of an edge":  func(d *impl.Desk) { d.Steps.Edges[0] = minusZero },
		"height":           func(d *impl.Desk) { d.Steps.Heights[2] = 1 },
		"fewer edges":      func(d *impl.Desk) { d.Steps.Edges = d.Steps.Edges[:1] },
		"fewer heights":    func(d *impl.Desk) { d.Steps.Heights = d.Steps.Heights[:2] },
		"no steps":         func(d *impl.Desk) { d.Steps = impl.Steps{} },
		"rate":             func(d *impl.Desk) { d.Pulse.Rate = 2 },
		"off":              func(d *impl.Desk) { d.Pulse.Off = minusZero },
		"turn":             func(d *impl.Desk) { d.Pulse.Turn = notANumber },
		"time":             func(d *impl.Desk) { d.Pulse.Time = -2 },
		"number of a scan": func(d *impl.Desk) { d.Scan[3] = 2 },
		"shorter scan":     func(d *impl.Desk) { d.Scan = d.Scan[:3] },
		"longer scan":      func(d *impl.Desk) { d.Scan = append(d.Scan, 1) },
		"no scan":          func(d *impl.Desk) { d.Scan = nil },
	}
	for what, change := range changes {
		d := impl.NewDesk()
		change(&d)
		wantBool(t, "SameDesk of another one: "+what, impl.SameDesk(impl.NewDesk(), d), false)
		wantBool(t, "SameDesk the other way round: "+what, impl.SameDesk(d, impl.NewDesk()), false)
		wantBool(t, "SameDesk of the same one: "+what, impl.SameDesk(d, d), true)
	}
	for _, d := range append(invalidDesks(), edgeDesks()...) {
		wantBool(t, "SameDesk of "+say(d), impl.SameDesk(d, d), true)
	}
	empty := impl.Desk{Steps: impl.Steps{Edges: []float32{}, Heights: []float32{}}, Scan: []float32{}}
	wantBool(t, "SameDesk of nil and empty lists", impl.SameDesk(impl.Desk{}, empty), true)
}

func TestSameDesksHaveTheSameNumbers(t *testing.T) {
	for _, a := range strangeBits() {
		for _, b := range strangeBits() {
			x, y, want := num(a), num(b), bitsOf(num(a)) == bitsOf(num(b))
			pairs := [][2]impl.Desk{
				{{Scan: []float32{x}}, {Scan: []float32{y}}},
				{{Scan: []float32{1, 2, x}}, {Scan: []float32{1, 2, y}}},
				{{Pulse: pulse(1, 2, x, 4)}, {Pulse: pulse(1, 2, y, 4)}},
				{{Steps: impl.Steps{Heights: []float32{x}}}, {Steps: impl.Steps{Heights: []float32{y}}}},
				{{Steps: impl.Steps{Edges: []float32{x}}}, {Steps: impl.Steps{Edges: []float32{y}}}},
			}
			for _, pair := range pairs {
				wantBool(t, fmt.Sprintf("SameDesk of %08x and %08x", a, b), impl.SameDesk(pair[0], pair[1]), want)
			}
		}
	}
}

// TestPartsAreReadAsTheyAreWritten also has texts that were written by hand.
func TestPartsAreReadAsTheyAreWritten(t *testing.T) {
	wantTold(t, []told{
		{"StepsText", say(impl.StepsText(impl.NewDesk().Steps)), say("00000000,3f800000;00000000,40000000,00000000", true)},
		{"StepsText without edges", say(impl.StepsText(impl.Steps{Heights: []float32{minusZero}})), say("none;80000000", true)},
		{"PulseText", say(impl.PulseText(pulse(1, -2, minusZero, least))), say("3f800000,c0000000,80000000,00000001", true)},
		{"ReadSteps", say(impl.ReadSteps("bf800000;00000001,40000000")), say(impl.Steps{Edges: []float32{-1}, Heights: []float32{least, 2}}, true)},
		{"ReadPulse", say(impl.ReadPulse("80000000,40000000,c0400000,40800000")), say(pulse(minusZero, 2, -3, 4), true)},
	})
	for _, d := range append(edgeDesks(), impl.NewDesk(), otherDesk(), impl.Desk{Steps: comb}) {
		wantTold(t, []told{
			{"StepsText", say(impl.StepsText(d.Steps)), say(textOfSteps(d.Steps), true)},
			{"PulseText", say(impl.PulseText(d.Pulse)), say(textOfPulse(d.Pulse), true)},
			{"ReadSteps", say(impl.ReadSteps(textOfSteps(d.Steps))), say(d.Steps, true)},
			{"ReadPulse", say(impl.ReadPulse(textOfPulse(d.Pulse))), say(d.Pulse, true)},
		})
	}
}

// TestInvalidPartsHaveNoText tries to write them, and to read the texts that they would have.
func TestInvalidPartsHaveNoText(t *testing.T) {
	for _, s := range invalidSteps() {
		wantFailing(t, []failing{
			{"StepsText of " + say(s), fails(impl.StepsText(s))},
			{"ReadSteps of the text of " + say(s), fails(impl.ReadSteps(textOfSteps(s)))},
		})
	}
	for _, p := range invalidPulses() {
		wantFailing(t, []failing{
			{"PulseText of " + say(p), fails(impl.PulseText(p))},
			{"ReadPulse of the text of " + say(p), fails(impl.ReadPulse(textOfPulse(p)))},
		})
	}
	for n := range 300 {
		if n != 4 {
			wantFailing(t, []failing{{fmt.Sprintf("ReadPulse of %d numbers", n), fails(impl.ReadPulse(textOf(repeatNumber(1, n)...)))}})
		}
		if n > 11 {
			wantFailing(t, []failing{{fmt.Sprintf("ReadSteps of %d edges", n), fails(impl.ReadSteps(textOf(upTo(n)...) + ";" + textOf(repeatNumber(1, n+1)...)))}})
		}
	}
}

// wrongTexts are those of neither steps nor pulses.
func wrongTexts() []string {
	return append(noneOfAnything()[1:],
		"00000000", "00000000;", ";00000000", ";", ";;", "none;", "none;none", ";none", "none,00000000", "none 00000000", "none;00000000;", ";none;00000000", "none;;00000000",
		"none;0000000", "none;000000000", "none;0000000g", "none;3F800000", "none;00000000,", "none;,00000000", "none;00000000\n", "none;7fc00000", "none;7f800000", "none;ffc00001",
		"00000000;00000000", "00000000,3f800000;00000000,40000000", "3f800000,00000000;00000000,40000000,00000000", "00000000,3f800000;00000000,40000000,00000000;00000000",
		"00000000,3f800000,00000000,40000000,00000000", "00000000,00000000,00000000", "00000000,00000000,00000000,", "00000000,00000000,00000000,0000000", "00000000,00000000,00000000,0000000\xff",
		"00000000;00000000;00000000;00000000", "00000000,00000000;00000000,00000000", "bf800000,00000000,00000000,00000000", "00000000,00000000,00000000,bf800000", "7f800000,00000000,00000000,00000000",
		"00000000,7fc00000,00000000,00000000", "00000000,00000000,ff800000,00000000", "none;00000000\x00", "\u00e9;00000000", "1;0,1",
	)
}

func TestTextsOfNothing(t *testing.T) {
	for _, text := range append(wrongTexts(), "") {
		wantFailing(t, []failing{
			{fmt.Sprintf("ReadSteps of %q", text), fails(impl.ReadSteps(text))},
			{fmt.Sprintf("ReadPulse of %q", text), fails(impl.ReadPulse(text))},
		})
	}
}

// TestTextsOfPartsWithOtherBytes puts other bytes at each place: what is read is always what has this text.
func TestTextsOfPartsWithOtherBytes(t *testing.T) {
	steps, beat := textOfSteps(otherDesk().Steps), textOfPulse(otherDesk().Pulse)
	for _, b := range []byte("09afAFg;,. \n\x00\x80\xff") {
		for i := range len(steps) {
			text := steps[:i] + string([]byte{b}) + steps[i+1:]
			if s, ok := impl.ReadSteps(text); ok {
				wantTold(t, []told{{"the text of what is read", textOfSteps(s), text}})
				wantBool(t, "ValidSteps", impl.ValidSteps(s), true)
			} else {
				wantTold(t, []told{{fmt.Sprintf("ReadSteps of %q", text), fails(s, ok), ""}})
			}
		}
		for i := range len(beat) {
			text := beat[:i] + string([]byte{b}) + beat[i+1:]
			if p, ok := impl.ReadPulse(text); ok {
				wantTold(t, []told{{"the text of what is read", textOfPulse(p), text}})
				wantBool(t, "ValidPulse", impl.ValidPulse(p), true)
			} else {
				wantTold(t, []told{{fmt.Sprintf("ReadPulse of %q", text), fails(p, ok), ""}})
			}
		}
	}
}
