package tests

import (
	"fmt"
	"strings"
	"testing"

	"loop.example/g01403/impl"
)

// sayDesk says what every function of chapter 8 makes of its arguments.
func sayDesk(d, other impl.Desk, text string, lines []string) string {
	script := strings.Join(lines, "\n") + "\n"
	journal, ok := impl.JournalOf(lines)
	said := say(impl.ValidDesk(d), impl.SameDesk(d, other), impl.NewDesk(), journal, ok) + say(impl.StepsText(d.Steps)) + say(impl.PulseText(d.Pulse)) +
		say(impl.ReadSteps(text)) + say(impl.ReadPulse(text)) + say(impl.DeskCommand(d, text)) + say(impl.RunDesk(d, text)) + say(impl.RunDesk(d, script)) + say(impl.RunDesk(d, "")) +
		say(impl.CountOutputs(text)) + say(impl.CountOutputs(script)) + say(impl.RecoverJournal(text)) + say(impl.RecoverJournal(journal+text)) +
		say(impl.RunJournal(d, text)) + say(impl.RunJournal(d, journal+text)) + say(impl.RunJournal(d, journal[:len(journal)/2]))
	for _, line := range lines {
		said += say(impl.DeskCommand(d, line)) + say(impl.DeskCommand(other, line))
	}
	return said
}

// formLines returns a line of each form, with other words.
func formLines(x float32, n, k int64) []string {
	var lines []string
	for _, f := range forms() {
		line := f.line
		if _, kinds, _ := strings.Cut(f.kinds, " "); kinds != "" && kinds != "TEXT" {
			first, _, _ := strings.Cut(line, " ")
			line = first + " " + strings.NewReplacer("X", textOf(x), "N", fmt.Sprint(n), "K", fmt.Sprint(k)).Replace(kinds)
		}
		lines = append(lines, line)
	}
	return append(lines, "", "what", "steps "+textOf(x)+";"+textOf(x, 1), "pulse "+textOf(x, x, x, x), "scan "+textOf(1, x, 2))
}

// oddDesk is of any numbers.
func oddDesk(x, y, z float32) impl.Desk {
	return impl.Desk{Steps: impl.Steps{Edges: []float32{x, y}, Heights: []float32{z, x, z}}, Pulse: pulse(x, y, z, x), Scan: []float32{y, 1, z}}
}

// TestDesksReturn calls every function of chapter 8 with all kinds of numbers, twice.
func TestDesksReturn(t *testing.T) {
	integers := []int64{-1 << 63, -1000000000000001, -1, 0, 1, 2, 3, 4, 5, 6, 32, 33, 64, 65, 1 << 32, 1<<63 - 1}
	bits := strangeBits()
	for i, a := range bits {
		for j, b := range bits {
			x, y, z := num(a), num(b), num(bits[(3*i+j)%len(bits)])
			n, k := integers[(i*7+j)%len(integers)], integers[(i+5*j)%len(integers)]
			odd := oddDesk(x, y, z)
			text := textOfSteps(odd.Steps)
			if i%2 == 0 {
				text = textOfPulse(odd.Pulse)
			}
			twice(t, fmt.Sprintf("desks of %08x %08x %d %d", a, b, n, k), func() string {
				return sayDesk(odd, impl.NewDesk(), text, formLines(y, n, k))
			})
		}
	}
	for _, d := range append(invalidDesks(), edgeDesks()...) {
		twice(t, "desks of "+say(d), func() string { return sayDesk(d, otherDesk(), "0 turn\n", formLines(1, 2, 3)) })
	}
}

// TestAnyTextsReturn has texts of any bytes, and some that are nearly right, twice.
func TestAnyTextsReturn(t *testing.T) {
	w := &words{111}
	for range 3000 {
		line := formLines(w.between(-1, 3), int64(w.below(6)), int64(w.below(6)))[w.below(26)]
		bytes := []byte(journalOf([]string{line, "scan"}) + line + "\n")
		for range w.below(4) {
			bytes[w.below(len(bytes))] = byte(w.next())
		}
		text := string(bytes[w.below(8):])
		twice(t, fmt.Sprintf("texts of %q", text), func() string {
			return sayDesk(impl.NewDesk(), otherDesk(), text, strings.Split(text, "\n")) + sayDesk(otherDesk(), otherDesk(), text+"\n", []string{text})
		})
	}
}

// deskWithRoom returns a copy of a desk, and all of its memory.
func deskWithRoom(d impl.Desk) (impl.Desk, [][]float32) {
	steps, memory := stepsWithRoom(d.Steps)
	scan, all := withRoom(d.Scan, 79)
	return impl.Desk{Steps: steps, Pulse: d.Pulse, Scan: scan}, append(memory, all)
}

// TestDesksAreNotModified looks at the memory of desks and lines, and at what comes behind their ends.
func TestDesksAreNotModified(t *testing.T) {
	for _, from := range append(edgeDesks(), impl.NewDesk(), otherDesk(), impl.Desk{}, oddDesk(1, 0, notANumber)) {
		d, memory := deskWithRoom(from)
		other, more := deskWithRoom(otherDesk())
		lines, allLines := withRoom(formLines(0.5, 2, 3), "behind")
		before := fmt.Sprint(memory, more, allLines)
		first := sayDesk(d, other, "turn", lines)
		if fmt.Sprint(memory, more, allLines) != before {
			t.Fatalf("desks or lines are modified: %s, and then %s", before, fmt.Sprint(memory, more, allLines))
		}
		if again := sayDesk(d, other, "turn", lines); again != first {
			t.Errorf("%s, and then %s", first, again)
		}
	}
}

// overwriteDesk writes over each list of a desk, and looks whether another one changes.
func overwriteDesk(t *testing.T, what string, d impl.Desk) {
	t.Helper()
	heights, scan := say(d.Steps.Heights), say(d.Scan)
	overwrite(d.Steps.Edges)
	wantTold(t, []told{{"heights and scan behind " + what, say(d.Steps.Heights) + say(d.Scan), heights + scan}})
	overwrite(d.Steps.Heights)
	wantTold(t, []told{{"scan behind " + what, say(d.Scan), scan}})
	overwrite(d.Scan)
}

// TestDesksAreNew writes over all that functions return, also behind lines that change nothing, or only one part.
func TestDesksAreNew(t *testing.T) {
	for _, from := range append(edgeDesks(), impl.NewDesk(), otherDesk()) {
		d, memory := deskWithRoom(from)
		before := fmt.Sprint(memory)
		wantSame := func(what string, after impl.Desk, ok bool) {
			t.Helper()
			wantBool(t, what, ok, true)
			overwriteDesk(t, what, after)
			if fmt.Sprint(memory) != before {
				t.Fatalf("a desk shares memory with the one behind %s", what)
			}
		}
		lines := append(formLines(0.5, 2, 3), "no such line", "turn it", "repeat 1", "repeat 9", fmt.Sprintf("pad %d", len(d.Scan)), "pad 64", "soft 0", "soft 9", "sharpen 0", "clean 7f7fffff", "scan 3f800000", "steps x", "pulse "+textOfPulse(d.Pulse))
		for _, line := range lines {
			after, _, ok := impl.DeskCommand(d, line)
			wantSame(line, after, ok)
			after, _, ok = impl.RunDesk(d, line+"\n")
			wantSame("a script of "+line, after, ok)
			after, _, ok = impl.RunJournal(d, journalOf([]string{line}))
			wantSame("a journal of "+line, after, ok)
			after, _, ok = impl.RunJournal(d, journalOf([]string{"steps", line})+"x")
			wantSame("a longer journal of "+line, after, ok)
		}
		after, _, ok := impl.RunDesk(d, "")
		wantSame("an empty script", after, ok)
		for _, text := range []string{"", "x", "1 turn\n", "0 ", "\n"} {
			after, _, ok := impl.RunJournal(d, text)
			wantSame(fmt.Sprintf("the journal %q", text), after, ok)
		}
	}
	first := say(impl.NewDesk())
	overwriteDesk(t, "NewDesk", impl.NewDesk())
	wantTold(t, []told{{"NewDesk, again", say(impl.NewDesk()), first}})
	steps, _ := impl.ReadSteps("00000000;3f800000,40000000")
	overwriteDesk(t, "ReadSteps", impl.Desk{Steps: steps})
}

// TestRecoveredLinesAreNew writes over lines that are recovered.
func TestRecoveredLinesAreNew(t *testing.T) {
	lines := []string{"turn", "", "scan"}
	for range 2 {
		recovered, _, ok := impl.RecoverJournal(journalOf(lines))
		wantBool(t, "RecoverJournal", ok && len(recovered) == 3, true)
		wantTold(t, []told{{"RecoverJournal", say(recovered), say(lines)}})
		clear(recovered[:cap(recovered)])
	}
}

func TestNilAndEmptyListsOfDesksAreOneValue(t *testing.T) {
	none, empty := withSteps(nil, 2), withSteps([]float32{}, 2)
	first, second := sayDesk(none, empty, "turn", formLines(1, 1, 2)), sayDesk(empty, none, "turn", formLines(1, 1, 2))
	wantTold(t, []told{
		{"what becomes of nil and empty edges", first, second},
		{"what is not valid", sayDesk(impl.Desk{}, impl.Desk{}, "turn", nil), sayDesk(impl.Desk{Steps: impl.Steps{Edges: []float32{}, Heights: []float32{}}, Scan: []float32{}}, impl.Desk{}, "turn", []string{})},
		{"the journal of no lines", say(impl.JournalOf(nil)), say(impl.JournalOf([]string{}))},
	})
}
