package tests

import (
	"fmt"
	"slices"
	"strings"
	"testing"

	"loop.example/g01403/impl"
)

// form is a form of lines: the kinds of its words, a line that has it, and the output of this at a new desk.
type form struct {
	kinds, line, output string
}

// forms are those of the document's table.
func forms() []form {
	return []form{
		{"steps TEXT", "steps none;3f800000", "ok"},
		{"pulse TEXT", "pulse 40000000,00000000,00000000,3f800000", "ok"},
		{"scan TEXT", "scan 3f800000,40000000", "ok"},
		{"steps", "steps", "00000000,3f800000;00000000,40000000,00000000"},
		{"pulse", "pulse", "3f800000,00000000,00000000,40000000"},
		{"scan", "scan", "3f800000,3f800000,3f800000,3f800000"},
		{"turn", "turn", "ok"},
		{"repeat N", "repeat 2", "ok"},
		{"height X", "height 3f000000", "40000000"},
		{"through X", "through 3f800000", "3ed706e2,3f147c91"},
		{"band X", "band 3f800000", "never"},
		{"swing X", "swing 3f800000", "3e6b5d80"},
		{"turns", "turns", "3f0a514000000000,00000000bf576aa4,00000000bf576aa4,3f0a514000000000"},
		{"lines", "lines", "4080000000000000,0000000000000000,0000000000000000"},
		{"mended", "mended", "40800000,00000000,00000000"},
		{"pad N", "pad 6", "ok"},
		{"soft N", "soft 2", "ok"},
		{"marks X", "marks 00000000", "none"},
		{"clean X", "clean 00000000", "ok"},
		{"sharpen N", "sharpen 3", "ok"},
		{"ratio N K", "ratio 0 4", "40000000"},
	}
}

// hasText reports whether lines with this first word and another one have a form, as those with the first one alone.
func hasText(line string) bool { return line == "steps" || line == "pulse" || line == "scan" }

// wantUnchanged checks the output of a line that changes nothing.
func wantUnchanged(t *testing.T, d impl.Desk, line, want string) {
	t.Helper()
	after, output, ok := impl.DeskCommand(d, line)
	wantText(t, fmt.Sprintf("%q at %.60s", line, say(d)), output, ok, want)
	wantTold(t, []told{{fmt.Sprintf("the desk behind %q", line), say(after), say(d)}})
}

// wantChanged checks the output and the desk of a line.
func wantChanged(t *testing.T, d impl.Desk, line string, want impl.Desk) {
	t.Helper()
	after, output, ok := impl.DeskCommand(d, line)
	wantText(t, fmt.Sprintf("%q at %.60s", line, say(d)), output, ok, "ok")
	wantTold(t, []told{{fmt.Sprintf("the desk behind %q", line), say(after), say(want)}})
}

func TestFormsOfLines(t *testing.T) {
	for _, f := range forms() {
		_, output, ok := impl.DeskCommand(impl.NewDesk(), f.line)
		wantText(t, f.line, output, ok, f.output)
		if f.output != "ok" {
			wantUnchanged(t, impl.NewDesk(), f.line, f.output)
		}
	}
}

// TestLinesWithAWordTooMany: only steps, pulse and scan have a form with one more word.
func TestLinesWithAWordTooMany(t *testing.T) {
	for _, f := range forms() {
		for _, word := range []string{"", "x", "0", "1", "none", "3f800000", "\x00", "\xff"} {
			want := "what"
			if hasText(f.line) {
				want = "no"
			}
			wantUnchanged(t, impl.NewDesk(), f.line+" "+word, want)
			wantUnchanged(t, impl.NewDesk(), f.line+" "+word+" "+word, "what")
			wantUnchanged(t, impl.NewDesk(), f.line+strings.Repeat(" "+word, 1000), "what")
		}
	}
}

func TestLinesWithAWordTooFew(t *testing.T) {
	for _, f := range forms() {
		words := strings.Split(f.line, " ")
		shorter := strings.Join(words[:len(words)-1], " ")
		if !hasText(shorter) {
			wantUnchanged(t, impl.NewDesk(), shorter, "what")
		}
	}
	wantUnchanged(t, impl.NewDesk(), "ratio", "what")
}

func TestLinesWithEmptyWords(t *testing.T) {
	for _, f := range forms() {
		words := strings.Split(f.line, " ")
		for i := range words {
			other := slices.Clone(words)
			other[i] = ""
			want := "no"
			if i == 0 {
				want = "what"
			}
			wantUnchanged(t, impl.NewDesk(), strings.Join(other, " "), want)
			// A blank more is an empty word more.
			wantUnchanged(t, impl.NewDesk(), strings.Join(slices.Insert(slices.Clone(words), i, ""), " "), "what")
		}
	}
	wantUnchanged(t, impl.NewDesk(), "ratio  ", "no")
	for _, line := range []string{"", " ", "  ", "   ", strings.Repeat(" ", 20000)} {
		wantUnchanged(t, impl.NewDesk(), line, "what")
	}
}

// TestLinesWithOtherFirstWords have as many words as a form.
func TestLinesWithOtherFirstWords(t *testing.T) {
	for _, f := range forms() {
		first, others, _ := strings.Cut(f.line, " ")
		rest := strings.TrimPrefix(f.line, first)
		for _, word := range []string{strings.ToUpper(first), strings.ToUpper(first[:1]) + first[1:], first + "x", "x" + first, first + "\n", first + "\x00", "\t" + first, first + "\u00a0", "ok", "no", "what", "yes", "none", "desk", others} {
			wantUnchanged(t, impl.NewDesk(), word+rest, "what")
		}
		// Without its last letter, turns is turn, which has a form, too.
		if first != "turns" {
			wantUnchanged(t, impl.NewDesk(), first[:len(first)-1]+rest, "what")
		}
		wantUnchanged(t, impl.NewDesk(), strings.ReplaceAll(f.line, " ", "\t")+"\t", "what")
	}
}

// wrongWords are right in no form that has a word of the kind.
func wrongWords() map[string][]string {
	integers := []string{
		"", "x", "-", "+1", "01", "-0", "-1", "--1", "1.", "1.0", "1e0", "0x1", "1_0", "1,0", "none", "3f800000", "1\n", "\n1", "1\t", "\x001", "\xff", "\u0661", "\uff11",
		"65", "66", "4294967297", "18446744073709551617", "1000000000000000", "-1000000000000000", "1000000000000001", "9223372036854775807", "9223372036854775808", "-9223372036854775808",
	}
	return map[string][]string{
		"TEXT": {"", "x", "none", "3f800000", "None", "none;none", "none;7fc00000", "7f800000,3f800000,3f800000,3f800000", "3f800000,3f800000,3f800000,7fc00001", "3f800000,", ",3f800000", "3F800000,3f800000,3f800000,3f800000", "3f800000;3f800000;3f800000", "3f800000,3f800000,3f800000,3f80000", "\x00", "\xff;\xff", "3f800000,3f800000\n", textOf(repeatNumber(1, 65)...), textOf(repeatNumber(1, 300)...)},
		"X":    {"", "x", "none", "1", "0.5", "3f8", "3f80000", "3f8000000", "3F800000", "3f80000g", "3f800000,3f800000", "3f800000,", ",3f800000", "none,none", "7fc00000", "7fc00001", "ffc00000", "7f800000", "ff800000", "3f800000\n", "\x003f80000", "\xff", "3f800000;", "\uff13f80000"},
		"N":    integers,
		"K":    integers,
	}
}

func TestLinesWithWrongWords(t *testing.T) {
	for _, f := range forms() {
		kinds, words := strings.Split(f.kinds, " "), strings.Split(f.line, " ")
		for i := 1; i < len(kinds); i++ {
			for _, wrong := range wrongWords()[kinds[i]] {
				other := slices.Clone(words)
				other[i] = wrong
				wantUnchanged(t, impl.NewDesk(), strings.Join(other, " "), "no")
				wantUnchanged(t, otherDesk(), strings.Join(other, " "), "no")
			}
		}
	}
	for _, text := range wrongTexts() {
		if !strings.Contains(text, " ") {
			wantUnchanged(t, otherDesk(), "steps "+text, "no")
			wantUnchanged(t, otherDesk(), "pulse "+text, "no")
		}
	}
}

// atDesk is a line, and its output at a desk that it does not change.
type atDesk struct {
	d            impl.Desk
	line, output string
}

// with returns a new desk with another part.
func with(change func(d *impl.Desk)) impl.Desk {
	d := impl.NewDesk()
	change(&d)
	return d
}

func withSteps(edges []float32, heights ...float32) impl.Desk {
	return with(func(d *impl.Desk) { d.Steps = impl.Steps{Edges: edges, Heights: heights} })
}

func withScan(scan ...float32) impl.Desk { return with(func(d *impl.Desk) { d.Scan = scan }) }

func withPulse(p impl.Pulse) impl.Desk { return with(func(d *impl.Desk) { d.Pulse = p }) }

// TestFunctionsThatFail has words that are as they must be, with which a function fails.
func TestFunctionsThatFail(t *testing.T) {
	great := withScan(repeatNumber(greatest, 4)...)
	for _, x := range []atDesk{
		{impl.NewDesk(), "repeat 0", "no"}, {impl.NewDesk(), "repeat 6", "no"}, {otherDesk(), "repeat 4", "no"}, {withSteps(nil, 1), "repeat 2", "no"},
		{withSteps([]float32{0}, 1, 1), "repeat 2", "no"}, {withSteps([]float32{0, 1}, 1, 2, 3), "repeat 1", "no"}, {withSteps([]float32{0, 1}, 0, 2, minusZero), "repeat 2", "no"},
		{withSteps([]float32{-greatest, greatest}, 1, 2, 1), "repeat 2", "no"},
		{impl.NewDesk(), "through 00000000", "no"}, {impl.NewDesk(), "through 40000000", "no"}, {impl.NewDesk(), "through bf800000", "no"}, {withSteps([]float32{0}, 0, 3), "through 3f800000", "no"},
		{impl.NewDesk(), "band 40000000", "no"}, {withSteps([]float32{0}, 0, 3), "band 3f800000", "no"}, {withSteps(nil, 1), "band 40000000", "no"},
		{impl.NewDesk(), "swing bf800000", "no"}, {impl.NewDesk(), "swing 80000001", "no"}, {withPulse(pulse(greatest, 1, 1, 1)), "swing 3f800000", "no"},
		{withPulse(pulse(1, greatest, 1, 1)), "turns", "no"}, {withPulse(pulse(2, 2, 1, greatest)), "turns", "no"},
		{great, "lines", "no"}, {great, "mended", "no"}, {great, "ratio 0 4", "no"}, {great, "sharpen 1", "no"}, {great, "pad 3", "no"},
		{impl.NewDesk(), "pad 3", "no"}, {impl.NewDesk(), "pad 0", "no"}, {impl.NewDesk(), "pad 65", "no"}, {impl.NewDesk(), "soft 3", "no"}, {impl.NewDesk(), "sharpen 33", "no"},
		{withScan(1, 0, 1), "sharpen 0", "no"}, {withScan(1, -1), "sharpen 1", "no"},
		{withScan(1, 2), "marks 00000000", "no"}, {withScan(1, 2), "clean 00000000", "no"}, {impl.NewDesk(), "marks 80000001", "no"}, {impl.NewDesk(), "clean bf800000", "no"},
		{withScan(greatest, -1, greatest), "marks 00000000", "none"}, {withScan(greatest/2, greatest, greatest), "clean 00000000", "ok"},
		{impl.NewDesk(), "ratio 0 0", "no"}, {impl.NewDesk(), "ratio 0 5", "no"}, {impl.NewDesk(), "ratio 4 4", "no"}, {impl.NewDesk(), "ratio 3 2", "no"}, {withScan(1, 2, -1), "ratio 0 2", "no"}, {withScan(0, 0, 1), "ratio 0 2", "no"},
	} {
		wantUnchanged(t, x.d, x.line, x.output)
	}
}

// TestDesksThatWouldNotBeValid have parts that are read, but not as they must be.
func TestDesksThatWouldNotBeValid(t *testing.T) {
	for n := range 260 {
		d, line := impl.NewDesk(), "scan "+textOf(repeatNumber(2, n)...)
		if n >= 2 && n <= 64 {
			wantChanged(t, d, line, withScan(repeatNumber(2, n)...))
		} else {
			wantUnchanged(t, d, line, "no")
		}
	}
	for _, x := range notFinite() {
		wantUnchanged(t, impl.NewDesk(), "scan "+textOf(x, 1, 2), "no")
		wantUnchanged(t, impl.NewDesk(), "scan "+textOf(1, 2, x), "no")
	}
	for _, s := range invalidSteps() {
		wantUnchanged(t, impl.NewDesk(), "steps "+textOfSteps(s), "no")
	}
	for _, p := range invalidPulses() {
		wantUnchanged(t, impl.NewDesk(), "pulse "+textOfPulse(p), "no")
	}
}

// TestLinesThatChangeNothing have functions that return what they were given, or lines that only tell.
func TestLinesThatChangeNothing(t *testing.T) {
	for _, d := range append(edgeDesks(), impl.NewDesk(), otherDesk()) {
		wantUnchanged(t, d, "steps", textOfSteps(d.Steps))
		wantUnchanged(t, d, "pulse", textOfPulse(d.Pulse))
		wantUnchanged(t, d, "scan", textOf(d.Scan...))
		wantUnchanged(t, d, "steps "+textOfSteps(d.Steps), "ok")
		wantUnchanged(t, d, "pulse "+textOfPulse(d.Pulse), "ok")
		wantUnchanged(t, d, "scan "+textOf(d.Scan...), "ok")
		wantUnchanged(t, d, fmt.Sprintf("pad %d", len(d.Scan)), "ok")
		wantUnchanged(t, d, "soft 0", "ok")
	}
	for _, d := range []impl.Desk{impl.NewDesk(), otherDesk()} {
		wantUnchanged(t, d, "repeat 1", "ok")
		wantUnchanged(t, d, "sharpen 0", "ok")
		wantUnchanged(t, d, "clean 41200000", "ok")
		wantUnchanged(t, d, "height 7f7fffff", textOf(d.Steps.Heights[0]))
	}
	wantUnchanged(t, withSteps(nil, 3), "turn", "ok")
	wantUnchanged(t, withSteps([]float32{-1, 0, 1}, 1, 2, 2, 1), "turn", "ok")
	wantUnchanged(t, withSteps(nil, 3), "repeat 1", "ok")
}

func TestLinesAtTheirLimits(t *testing.T) {
	full := withScan(repeatNumber(1, 64)...)
	wantChanged(t, impl.NewDesk(), "pad 64", withScan(append(repeatNumber(1, 4), repeatNumber(0, 60)...)...))
	wantUnchanged(t, full, "pad 64", "ok")
	wantUnchanged(t, full, "ratio 0 64", "41000000")
	wantUnchanged(t, full, "ratio 63 64", "3f800000")
	wantUnchanged(t, full, "ratio 0 65", "no")
	wantUnchanged(t, full, "sharpen 32", "ok")
	wantUnchanged(t, withScan(1, 1), "sharpen 32", "ok")
	wantChanged(t, withScan(2, 4), "soft 1", withScan(2, 2))
	wantChanged(t, withScan(3, 9, 4), "clean 00000000", withScan(3, 3.5, 4))
	wantChanged(t, withSteps([]float32{0, 2}, 1, 3, 1), "repeat 5", withSteps([]float32{0, 2, 4, 6, 8, 10, 12, 14, 16, 18}, 1, 3, 1, 3, 1, 3, 1, 3, 1, 3, 1))
	wantChanged(t, withSteps([]float32{1, 2}, 1, 3, 4), "turn", withSteps([]float32{-2, -1}, 4, 3, 1))
	wantChanged(t, withSteps([]float32{minusZero}, 1, 2), "turn", withSteps([]float32{0}, 2, 1))
	wantChanged(t, impl.NewDesk(), "steps "+textOfSteps(evenSteps(11)), with(func(d *impl.Desk) { d.Steps = evenSteps(11) }))
	wantUnchanged(t, impl.NewDesk(), "steps "+textOfSteps(evenSteps(12)), "no")
}

// TestDeskOfOtherParts: each part is changed by its own lines only.
func TestDeskOfOtherParts(t *testing.T) {
	d, other := impl.NewDesk(), otherDesk()
	wantChanged(t, d, "steps "+textOfSteps(other.Steps), with(func(d *impl.Desk) { d.Steps = other.Steps }))
	wantChanged(t, d, "pulse "+textOfPulse(other.Pulse), withPulse(other.Pulse))
	wantChanged(t, d, "scan "+textOf(other.Scan...), withScan(other.Scan...))
}
