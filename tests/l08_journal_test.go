package tests

import (
	"fmt"
	"strings"
	"testing"

	"loop.example/g01403/impl"
)

// journalOf is told without the package, with no limit.
func journalOf(lines []string) string {
	text, check := "", 0
	for _, line := range lines {
		check = checkFrom(check, line)
		text += fmt.Sprintf("%d %s\n", check, line)
	}
	return text
}

// recovered tries how many lines a journal can have that a text begins with, from the most on.
func recovered(text string) ([]string, int) {
	rows := strings.Split(text, "\n")
	lines := make([]string, len(rows))
	for i, row := range rows {
		_, lines[i], _ = strings.Cut(row, " ")
	}
	for n := len(lines); n > 0; n-- {
		if journal := journalOf(lines[:n]); strings.HasPrefix(text, journal) {
			return lines[:n], len(journal)
		}
	}
	return nil, 0
}

// wantRecovered checks what is recovered of a text, and what becomes of it at a desk.
func wantRecovered(t *testing.T, what, text string, lines []string) {
	t.Helper()
	whole := journalOf(lines)
	wantTold(t, []told{{"RecoverJournal of " + what, say(impl.RecoverJournal(text)), say(lines, int64(len(whole)), true)}})
	d := impl.NewDesk()
	for _, line := range lines {
		d, _, _ = impl.DeskCommand(d, line)
	}
	wantTold(t, []told{{"RunJournal of " + what, say(impl.RunJournal(impl.NewDesk(), text)), say(d, int64(len(lines)), true)}})
}

// someJournals are of lines of all kinds, some of them with blanks, or with nothing.
func someJournals() [][]string {
	return [][]string{
		{},
		{""},
		{"", "", ""},
		{" "},
		{"turn"},
		{"turn", "scan"},
		{"pad 6", "turn", "what is this", "pad 3", "", "  ", "repeat 2", "scan 3f800000,40000000", "soft 1"},
		{"0 ", "turn 0", "12345 turn", journalOf([]string{"turn"})[:9]},
		{"\x00", "\xff\xfe", "\r", "\t turn", "a\x00b", "\u00e9\u20ac", "\xe2\x82", strings.Repeat("x", 300)},
	}
}

func TestJournals(t *testing.T) {
	wantTold(t, []told{
		{"JournalOf no lines", say(impl.JournalOf(nil)), say("", true)},
		{"JournalOf an empty line", say(impl.JournalOf([]string{""})), say("0 \n", true)},
		{"JournalOf turn", say(impl.JournalOf([]string{"turn"})), say("9860 turn\n", true)},
		{"JournalOf turn and scan", say(impl.JournalOf([]string{"turn", "scan"})), say("9860 turn\n34007 scan\n", true)},
	})
	for i, lines := range someJournals() {
		journal, ok := impl.JournalOf(lines)
		wantText(t, fmt.Sprintf("JournalOf the lines %d", i), journal, ok, journalOf(lines))
		wantRecovered(t, fmt.Sprintf("the journal %d", i), journal, lines)
		for _, behind := range []string{"x", " ", "\n", "0", "0 ", "0 x\n", "turn\n", "9860 turn", "00000 \n", "-1 \n", "\x00", journal + "1 1\n"} {
			text := journal + behind
			want, _ := recovered(text)
			wantRecovered(t, fmt.Sprintf("the journal %d with %q behind it", i, behind), text, want)
		}
	}
}

// TestCheckNumbersGoOn: each one begins with the one before.
func TestCheckNumbersGoOn(t *testing.T) {
	check, want := int64(0), ""
	var lines []string
	for i := range 50 {
		line := fmt.Sprintf("line %d", i*i)
		check, _ = impl.CheckOf(check, line)
		lines, want = append(lines, line), want+fmt.Sprintf("%d %s\n", check, line)
		journal, ok := impl.JournalOf(lines)
		wantText(t, fmt.Sprintf("JournalOf %d lines", i+1), journal, ok, want)
	}
}

func TestJournalsWithNewlines(t *testing.T) {
	for _, line := range []string{"\n", "turn\n", "\nturn", "a\nb", "\r\n", "\n\n", "0 \n0 ", "\xff\n"} {
		for _, lines := range [][]string{{line}, {"turn", line}, {line, "turn"}, {"", line, ""}} {
			wantFailing(t, []failing{{fmt.Sprintf("JournalOf %q", lines), fails(impl.JournalOf(lines))}})
		}
	}
}

// TestJournalsThatAreCut are cut everywhere: whole lines are recovered, and nothing of others.
func TestJournalsThatAreCut(t *testing.T) {
	for i, lines := range someJournals() {
		text := journalOf(lines)
		whole := 0
		for cut := range len(text) + 1 {
			if whole < len(lines) && cut == len(journalOf(lines[:whole+1])) {
				whole++
			}
			wantRecovered(t, fmt.Sprintf("the journal %d, cut at %d", i, cut), text[:cut], lines[:whole])
		}
	}
}

// TestJournalsWithOtherBytes have any other byte at each place: the lines before the one in which it is are recovered.
func TestJournalsWithOtherBytes(t *testing.T) {
	lines := []string{"pad 6", "", "turn", "no line", "soft 1"}
	text := journalOf(lines)
	for i := range len(text) {
		before := strings.Count(text[:i], "\n")
		for b := range 256 {
			if byte(b) == text[i] {
				continue
			}
			bent, what := text[:i]+string([]byte{byte(b)})+text[i+1:], fmt.Sprintf("a journal with the byte %d at %d", b, i)
			if got, _ := recovered(bent); len(got) != before {
				t.Fatalf("%s: %d lines are intact, want %d", what, len(got), before)
			}
			wantRecovered(t, what, bent, lines[:before])
		}
		for _, bent := range []string{text[:i] + text[i+1:], text[:i] + "0" + text[i:], text[:i] + " " + text[i:], text[:i] + "\n" + text[i:], text[:i] + text[i:i+1] + text[i:]} {
			want, _ := recovered(bent)
			wantRecovered(t, fmt.Sprintf("%q", bent), bent, want)
		}
	}
}

// TestJournalsWithOtherNumbers have check numbers that are not written as they are, or that do not begin with the one before.
func TestJournalsWithOtherNumbers(t *testing.T) {
	check := checkNumber("turn")
	for _, text := range []string{
		"0\n", "0", " \n", "\n", "\n\n", " 0 \n", "00 \n", "+0 \n", "-0 \n", "0  \n", "0\t\n", "65003 \n", "1 \n", "0x0 \n", "none\n", "turn\n",
		fmt.Sprintf("0%d turn\n", check), fmt.Sprintf("+%d turn\n", check), fmt.Sprintf(" %d turn\n", check), fmt.Sprintf("%d  turn\n", check), fmt.Sprintf("%d turn \n", check), fmt.Sprintf("%d\tturn\n", check),
		fmt.Sprintf("%d turn\n", check+65003), fmt.Sprintf("%d turn\n", check-65003), fmt.Sprintf("%d.0 turn\n", check), fmt.Sprintf("%d\n", check), fmt.Sprintf("%d Turn\n", check), fmt.Sprintf("%dturn\n", check), fmt.Sprintf("%d turn\r\n", check),
	} {
		wantRecovered(t, fmt.Sprintf("%q", text), text, nil)
		wantRecovered(t, fmt.Sprintf("a line before %q", text), journalOf([]string{"pad 5"})+text, []string{"pad 5"})
	}
	// The check number of the second line must not begin with 0 again.
	again := journalOf([]string{"turn"})
	wantRecovered(t, "the same line twice, with the same number", again+again, []string{"turn"})
	wantRecovered(t, "the second line alone", strings.TrimPrefix(journalOf([]string{"turn", "turn"}), again), nil)
	wantRecovered(t, "lines in another order", journalOf([]string{"turn", "scan"})[len(again):]+again, nil)
}

// withLength has one line, with which its journal has so many bytes: its check number has five digits.
func withLength(n int) string {
	size := n - len("12345 \n")
	for letter := 'a'; ; letter++ {
		if line := strings.Repeat(string(letter), size); checkNumber(line) >= 10000 {
			return line
		}
	}
}

func TestLongestJournals(t *testing.T) {
	long := withLength(16000)
	tooLong := withLength(16001)
	wantBool(t, "the lengths of journals", len(journalOf([]string{long})) == 16000 && len(journalOf([]string{tooLong})) == 16001, true)
	many := make([]string, 5333)
	wantTold(t, []told{
		{"JournalOf a long line", say(impl.JournalOf([]string{long})), say(journalOf([]string{long}), true)},
		{"JournalOf many empty lines", say(impl.JournalOf(many)), say(strings.Repeat("0 \n", 5333), true)},
	})
	wantRecovered(t, "a long line", journalOf([]string{long}), []string{long})
	wantRecovered(t, "many empty lines", strings.Repeat("0 \n", 5333), many)
	wantRecovered(t, "many empty lines with a byte behind them", strings.Repeat("0 \n", 5333)+"0", many)
	wantFailing(t, []failing{
		{"JournalOf a line that is too long", fails(impl.JournalOf([]string{tooLong}))},
		{"JournalOf a line that is much too long", fails(impl.JournalOf([]string{long + long}))},
		{"JournalOf a long line and another one", fails(impl.JournalOf([]string{long, ""}))},
		{"JournalOf too many lines", fails(impl.JournalOf(make([]string, 5334)))},
		{"JournalOf very many lines", fails(impl.JournalOf(make([]string, 100000)))},
	})
	for _, text := range []string{journalOf([]string{tooLong}), journalOf([]string{long}) + "x", journalOf([]string{long, ""}), strings.Repeat("0 \n", 5334), strings.Repeat("x", 16001)} {
		wantFailing(t, []failing{
			{"RecoverJournal of a text that is too long", fails(impl.RecoverJournal(text))},
			{"RunJournal of a text that is too long", fails(impl.RunJournal(impl.NewDesk(), text))},
		})
	}
	wantRecovered(t, "a long text that is none", strings.Repeat("x", 16000), nil)
	wantRecovered(t, "a line before a long text", "0 \n"+strings.Repeat("\n", 15997), []string{""})
}
