package tests

import (
	"fmt"
	"strings"
	"testing"

	"loop.example/g01403/impl"
)

// linesOf has the given lines, each with a newline behind it.
func linesOf(lines ...string) string {
	text := ""
	for _, line := range lines {
		text += line + "\n"
	}
	return text
}

func TestEmptyScript(t *testing.T) {
	for _, d := range append(edgeDesks(), impl.NewDesk(), otherDesk()) {
		after, outputs, ok := impl.RunDesk(d, "")
		wantText(t, "RunDesk without lines", outputs, ok, "")
		wantTold(t, []told{{"the desk without lines", say(after), say(d)}})
	}
	wantTold(t, []told{{"CountOutputs without outputs", say(impl.CountOutputs("")), say(int64(0), int64(0), true)}})
}

// TestScriptsAreLinesOneAfterAnother also has empty lines, and lines that are answered with no or what.
func TestScriptsAreLinesOneAfterAnother(t *testing.T) {
	all := []string{"", "turn", "steps", "turn it", "pad 6", "scan", "pad 3", " ", "pulse 40000000,00000000,00000000,40000000", "turns", "repeat 2", "repeat 6", "steps", "", "what", "no", "turn\r", "turn\x00", "\xff", "scan 3f800000,3f800001", "ratio 0 2", "scan none", "scan"}
	for from := range all {
		for to := from; to <= len(all); to++ {
			d, want := impl.NewDesk(), ""
			for _, line := range all[from:to] {
				after, output, ok := impl.DeskCommand(d, line)
				wantBool(t, "DeskCommand", ok, true)
				d, want = after, want+output+"\n"
			}
			end, outputs, ok := impl.RunDesk(impl.NewDesk(), linesOf(all[from:to]...))
			wantText(t, fmt.Sprintf("RunDesk from %d to %d", from, to), outputs, ok, want)
			wantTold(t, []told{{"the desk behind a script", say(end), say(d)}})
		}
	}
	wantTold(t, []told{{"RunDesk of newlines", say(impl.RunDesk(impl.NewDesk(), "\n\n\n")), say(impl.NewDesk(), "what\nwhat\nwhat\n", true)}})
}

// TestScriptsThatAreCut end within a line; if they end behind one, they have the lines before.
func TestScriptsThatAreCut(t *testing.T) {
	script := linesOf("turn", "steps", "", "scan 3f800000,40000000", "scan")
	whole, ends := "", 0
	for cut := range len(script) + 1 {
		text := script[:cut]
		if cut == 0 || text[cut-1] == '\n' {
			_, outputs, ok := impl.RunDesk(impl.NewDesk(), text)
			wantBool(t, fmt.Sprintf("RunDesk of %q", text), ok && strings.HasPrefix(outputs, whole), true)
			whole, ends = outputs, ends+1
			continue
		}
		wantFailing(t, []failing{
			{fmt.Sprintf("RunDesk of %q", text), fails(impl.RunDesk(impl.NewDesk(), text))},
			{fmt.Sprintf("CountOutputs of %q", text), fails(impl.CountOutputs(text))},
		})
	}
	wantBool(t, "all ends of lines", ends == 6, true)
	for _, text := range []string{"turn", " ", "\r", "turn\n ", "turn\nturn", "\nx", "\n\x00", "turn\r"} {
		wantFailing(t, []failing{
			{fmt.Sprintf("RunDesk of %q", text), fails(impl.RunDesk(impl.NewDesk(), text))},
			{fmt.Sprintf("CountOutputs of %q", text), fails(impl.CountOutputs(text))},
		})
	}
}

// TestScriptsWithOtherBytes have another byte at each place: the lines before it are as they were.
func TestScriptsWithOtherBytes(t *testing.T) {
	script := linesOf("pad 5", "scan", "turn", "steps", "ratio 0 4")
	for i := range len(script) {
		for _, b := range []byte("\x00 \n,0x\x80\xff") {
			text := script[:i] + string([]byte{b}) + script[i+1:]
			if !strings.HasSuffix(text, "\n") {
				wantFailing(t, []failing{{fmt.Sprintf("RunDesk of %q", text), fails(impl.RunDesk(impl.NewDesk(), text))}})
				continue
			}
			d, want := impl.NewDesk(), ""
			for _, line := range strings.Split(strings.TrimSuffix(text, "\n"), "\n") {
				after, output, _ := impl.DeskCommand(d, line)
				d, want = after, want+output+"\n"
			}
			wantTold(t, []told{{fmt.Sprintf("RunDesk of %q", text), say(impl.RunDesk(impl.NewDesk(), text)), say(d, want, true)}})
		}
	}
}

// TestLongestScripts has lines that leave a desk as it is, or come so often that they do.
func TestLongestScripts(t *testing.T) {
	d := withScan(repeatNumber(1, 64)...)
	for _, line := range []string{"\n", "scan\n", "turn\n", "lines\n", strings.Repeat("x", 15999) + "\n", "scan " + strings.Repeat("3f800000,", 1776) + "3f800000,x\n", strings.Repeat(" ", 15999) + "\n"} {
		script := strings.Repeat(line, 16000/len(line))
		script = strings.Repeat("\n", 16000-len(script)) + script
		what := fmt.Sprintf("RunDesk of 16000 bytes, %.9q and so on", line)
		after, outputs, ok := impl.RunDesk(d, script)
		wantBool(t, what, ok && strings.Count(outputs, "\n") == strings.Count(script, "\n"), true)
		wantTold(t, []told{{"the desk behind " + what, say(after), say(d)}})
		wantFailing(t, []failing{
			{what + " with one byte more", fails(impl.RunDesk(d, "\n"+script))},
			{what + " twice", fails(impl.RunDesk(d, script+script))},
			{what + " with a line that does not end", fails(impl.RunDesk(d, script+"x"))},
		})
	}
}

// TestOutputsAreNotLimited: they can be longer than a script may be, and are not counted then.
func TestOutputsAreNotLimited(t *testing.T) {
	d := withScan(repeatNumber(1, 64)...)
	_, outputs, ok := impl.RunDesk(d, strings.Repeat("scan\n", 3200))
	wantText(t, "RunDesk", outputs, ok, strings.Repeat(textOf(d.Scan...)+"\n", 3200))
	wantFailing(t, []failing{{"CountOutputs of too many", fails(impl.CountOutputs(outputs))}})
}

func TestCountOutputs(t *testing.T) {
	for _, x := range []struct {
		text        string
		bad, others int64
	}{
		{"ok\n", 0, 1}, {"no\n", 1, 0}, {"what\n", 1, 0}, {"\n", 0, 1}, {"no\nwhat\nok\nyes\nnever\n", 2, 3}, {"ok\n\n\nno\n\n", 1, 4},
		{"No\nNO\nno \n no\nno\r\nnone\nn\nnot\nwhats\nwha\nWhat\nwhat \n\x00no\nnever\n", 0, 14}, {"no\n\nno\n", 2, 1}, {"nowhat\nwhatno\nno what\n", 0, 3},
		{strings.Repeat("\n", 16000), 0, 16000}, {strings.Repeat("no\n", 5333) + "\n", 5333, 1}, {strings.Repeat("what\n", 3200), 3200, 0}, {strings.Repeat("x", 15999) + "\n", 0, 1},
	} {
		wantTold(t, []told{{fmt.Sprintf("CountOutputs of %.40q", x.text), say(impl.CountOutputs(x.text)), say(x.bad, x.others, true)}})
	}
	for _, text := range []string{"no", "what", "ok", "x", "no\nwhat", "\nno", "no\n ", strings.Repeat("\n", 16001), strings.Repeat("no\n", 5334), strings.Repeat("x", 16000), strings.Repeat("x", 16000) + "\n"} {
		wantFailing(t, []failing{{fmt.Sprintf("CountOutputs of %.40q", text), fails(impl.CountOutputs(text))}})
	}
}
