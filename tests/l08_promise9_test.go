package tests

import (
	"fmt"
	"slices"
	"strings"
	"testing"

	"loop.example/g01403/impl"
)

// someDesk has steps of up to 6 edges, which often end as they begin, a pulse, and a scan that has often no number below 0.
func someDesk(w *words) impl.Desk {
	d := impl.Desk{Pulse: somePulse([4]uint32{w.next(), w.next(), w.next(), w.next()})}
	place := w.between(-3, 0)
	d.Steps.Heights = []float32{w.between(-1, 1)}
	for range w.below(7) {
		d.Steps.Edges = append(d.Steps.Edges, place)
		d.Steps.Heights = append(d.Steps.Heights, w.between(-2, 3))
		place += w.between(0.125, 1)
	}
	if w.below(4) > 0 {
		d.Steps.Heights[len(d.Steps.Heights)-1] = d.Steps.Heights[0]
	}
	low := float64(w.below(4) - 1)
	for range 2 + w.below(12) {
		d.Scan = append(d.Scan, w.between(low, 3))
	}
	return d
}

// asked is a line of a form, whose words are a number, integers, or the text of a part of another desk.
type asked struct {
	form
	x     float32
	n, k  int64
	other impl.Desk
}

// someAsked has words that are often as they must be at a desk.
func someAsked(w *words, d impl.Desk) asked {
	all := forms()
	a := asked{all[w.below(len(all))], w.between(-0.5, 4), int64(w.below(6)), int64(w.below(16)), someDesk(w)}
	switch {
	case w.below(8) == 0:
		a.x = d.Steps.Heights[w.below(len(d.Steps.Heights))]
	case w.below(8) == 0:
		a.x = num(w.next())
	}
	if a.kinds == "pad N" {
		a.n += int64(len(d.Scan)) - 1
	}
	return a
}

func (a asked) text() string {
	words := strings.Split(a.kinds, " ")
	for i, kind := range words {
		switch kind {
		case "TEXT":
			words[i] = map[string]string{"steps": textOfSteps(a.other.Steps), "pulse": textOfPulse(a.other.Pulse), "scan": textOf(a.other.Scan...)}[words[0]]
		case "X":
			words[i] = textOf(a.x)
		case "N":
			words[i] = fmt.Sprint(a.n)
		case "K":
			words[i] = fmt.Sprint(a.k)
		}
	}
	return strings.Join(words, " ")
}

// change returns the desk behind a line with the output ok, by the functions of the package, and whether it is such a line, and none fails.
func (a asked) change(d impl.Desk) (impl.Desk, bool) {
	ok := true
	switch a.kinds {
	case "steps TEXT":
		d.Steps = a.other.Steps
	case "pulse TEXT":
		d.Pulse = a.other.Pulse
	case "scan TEXT":
		d.Scan = a.other.Scan
	case "turn":
		d.Steps, ok = impl.TurnSteps(d.Steps)
	case "repeat N":
		d.Steps, ok = impl.RepeatSteps(d.Steps, a.n)
	case "pad N":
		d.Scan, ok = impl.PadScan(d.Scan, a.n)
	case "soft N":
		d.Scan, ok = impl.SoftScan(d.Scan, a.n)
	case "clean X":
		d.Scan, ok = impl.RemoveMarks(d.Scan, a.x)
	case "sharpen N":
		d.Scan, ok = impl.SharpenBy(d.Scan, []float32{1, 2, 1}, a.n)
	default:
		return d, false
	}
	return d, ok
}

// tell returns the output of a line that changes nothing, by the functions of the package, and whether it is such a line, and none fails.
func (a asked) tell(d impl.Desk) (string, bool) {
	number := func(x float32, ok bool) (string, bool) { return textOf(x), ok }
	numbers := func(list []float32, ok bool) (string, bool) { return textOf(list...), ok }
	complexes := func(list []complex64, ok bool) (string, bool) { return textOfComplex(list), ok }
	switch a.kinds {
	case "steps":
		return textOfSteps(d.Steps), true
	case "pulse":
		return textOfPulse(d.Pulse), true
	case "scan":
		return textOf(d.Scan...), true
	case "height X":
		return number(impl.HeightAt(d.Steps, a.x))
	case "through X":
		through, back, ok := impl.StepShares(d.Steps, a.x)
		return textOf(through, back), ok
	case "band X":
		in, ok := impl.IsBand(d.Steps, a.x)
		return map[bool]string{true: "yes", false: "never"}[in], ok
	case "swing X":
		return number(impl.SwingShare(d.Pulse.Rate, d.Pulse.Off, a.x))
	case "turns":
		return complexes(impl.PulseTurns(d.Pulse))
	case "lines":
		return complexes(impl.ScanLines(d.Scan))
	case "mended":
		return numbers(impl.MendedLines(d.Scan))
	case "marks X":
		marks, ok := impl.CosmicMarks(d.Scan, a.x)
		if len(marks) == 0 {
			return "none", ok
		}
		return strings.Trim(strings.ReplaceAll(fmt.Sprint(marks), " ", ","), "[]"), ok
	case "ratio N K":
		return number(impl.NoiseRatio(d.Scan, a.n, a.k))
	}
	return "", false
}

// answer returns the desk and the output behind a line.
func (a asked) answer(d impl.Desk) (impl.Desk, string) {
	if after, ok := a.change(d); ok {
		return after, "ok"
	}
	if output, ok := a.tell(d); ok {
		return d, output
	}
	return d, "no"
}

// TestDesksOutputWhatFunctionsTell is the first part of promise 9.
func TestDesksOutputWhatFunctionsTell(t *testing.T) {
	w, fine, refused := &words{112}, map[string]int{}, map[string]int{}
	for range 2000 {
		first, script, outputs, bad := someDesk(w), "", "", int64(0)
		d := first
		for range 20 {
			a := someAsked(w, d)
			want, output := a.answer(d)
			if output == "no" {
				refused[a.kinds]++
				bad++
			} else {
				fine[a.kinds]++
			}
			what := fmt.Sprintf("%q at %s", a.text(), say(d))
			after, got, ok := impl.DeskCommand(d, a.text())
			wantText(t, what, got, ok, output)
			wantTold(t, []told{{"the desk behind " + what, say(after), say(want)}})
			d, script, outputs = want, script+a.text()+"\n", outputs+output+"\n"
		}
		wantTold(t, []told{
			{"RunDesk", say(impl.RunDesk(first, script)), say(d, outputs, true)},
			{"CountOutputs", say(impl.CountOutputs(outputs)), say(bad, 20-bad, true)},
		})
	}
	for _, f := range forms() {
		wantBool(t, f.kinds+" is often answered", fine[f.kinds] > 100, true)
		// Heights are at all places.
		if f.kinds != "height X" && (strings.Contains(f.kinds, " X") || strings.Contains(f.kinds, " N")) {
			wantBool(t, f.kinds+" is often refused", refused[f.kinds] > 50, true)
		}
	}
}

// TestPartsAreToldToTheLastBit writes any valid parts down, and reads them again, as texts and at a desk.
func TestPartsAreToldToTheLastBit(t *testing.T) {
	w := &words{113}
	for range 2000 {
		d := impl.Desk{Pulse: pulse(max(anyFinite(w), minusZero), anyFinite(w), anyFinite(w), max(anyFinite(w), 0))}
		for range w.below(12) {
			d.Steps.Edges = append(d.Steps.Edges, anyFinite(w))
		}
		slices.Sort(d.Steps.Edges)
		for range len(d.Steps.Edges) + 1 {
			d.Steps.Heights = append(d.Steps.Heights, anyFinite(w))
		}
		for range 2 + w.below(63) {
			d.Scan = append(d.Scan, anyFinite(w))
		}
		script := linesOf("steps "+textOfSteps(d.Steps), "pulse "+textOfPulse(d.Pulse), "scan "+textOf(d.Scan...), "steps", "pulse", "scan")
		end, outputs, ok := impl.RunDesk(impl.NewDesk(), script)
		wantText(t, "RunDesk", outputs, ok, linesOf("ok", "ok", "ok", textOfSteps(d.Steps), textOfPulse(d.Pulse), textOf(d.Scan...)))
		wantTold(t, []told{
			{"the desk", say(end), say(d)},
			{"ReadSteps", say(impl.ReadSteps(textOfSteps(d.Steps))), say(d.Steps, true)},
			{"ReadPulse", say(impl.ReadPulse(textOfPulse(d.Pulse))), say(d.Pulse, true)},
		})
		wantBool(t, "SameDesk", impl.ValidDesk(end) && impl.SameDesk(end, d), true)
	}
}

// TestJournalsAreRecoveredAsFarAsTheyAreIntact is the second part of promise 9: one byte is another one, is left out,
// or comes more, or the end is left out.
func TestJournalsAreRecoveredAsFarAsTheyAreIntact(t *testing.T) {
	w := &words{114}
	for range 2000 {
		d := someDesk(w)
		var lines []string
		for range 1 + w.below(8) {
			a := someAsked(w, d)
			lines = append(lines, []string{a.text(), a.line, a.kinds, "", string([]byte{byte(w.next()) | 16})}[w.below(5)])
		}
		journal, ok := impl.JournalOf(lines)
		wantText(t, "JournalOf", journal, ok, journalOf(lines))
		place := w.below(len(journal))
		whole := strings.Count(journal[:place], "\n")
		bent := journal[:place] + string([]byte{journal[place] ^ byte(1+w.below(255))}) + journal[place+1:]
		for _, text := range []string{journal, journal[:place], bent, journal[:place] + journal[place+1:], journal[:place] + string([]byte{byte(w.next())}) + journal[place:]} {
			want, n := recovered(text)
			wantTold(t, []told{{fmt.Sprintf("RecoverJournal of %q", text), say(impl.RecoverJournal(text)), say(want, int64(n), true)}})
			again, ok := impl.JournalOf(want)
			wantBool(t, "a journal begins with what is recovered", ok && again == text[:n] && len(want) >= whole, true)
			after, _, _ := impl.RunDesk(d, linesOf(want...))
			wantTold(t, []told{{"RunJournal", say(impl.RunJournal(d, text)), say(after, int64(len(want)), true)}})
		}
		wantTold(t, []told{{"lines before the first byte that is another one", say(impl.RecoverJournal(bent)), say(lines[:whole], int64(len(journalOf(lines[:whole]))), true)}})
	}
}
