package tests

import (
	"fmt"
	"testing"

	"loop.example/g01403/impl"
)

const deskSteps = 5000

// walkedSteps have up to 6 edges, and end as they begin in three of four.
func walkedSteps(r [4]uint32) impl.Steps {
	s := impl.Steps{Heights: []float32{float32(int(r[3]>>8%25)-8) / 4}}
	for i := range int(r[1] >> 4 % 7) {
		word := otherWords(r, i)
		s.Edges = append(s.Edges, float32(i)+float32(word[0]%64)/64-2)
		s.Heights = append(s.Heights, float32(int(word[2]>>8%25)-8)/4)
	}
	if r[2]%4 > 0 {
		s.Heights[len(s.Heights)-1] = s.Heights[0]
	}
	return s
}

func walkedPulse(r [4]uint32) impl.Pulse {
	return pulse(float32(r[1]>>8%33)/8, float32(int(r[2]>>8%33)-16)/8, mild(r[3]), float32(r[0]>>8%65)/16)
}

// walkedScan has 2 to 13 numbers, none of them below 0 in three of four.
func walkedScan(r [4]uint32) []float32 {
	scan := make([]float32, 2+r[1]>>4%12)
	for i := range scan {
		scan[i] = mild(otherWords(r, i)[1])
		if r[2]%4 > 0 {
			scan[i] = max(scan[i], -scan[i])
		}
	}
	return scan
}

// walkedNumber is the text of a strange number in one of eight, of a mild one in another one, and of a fraction otherwise.
func walkedNumber(r uint32) string {
	switch r >> 8 % 8 {
	case 0:
		strange := strangeBits()
		return fmt.Sprintf("%08x", strange[r>>16%uint32(len(strange))])
	case 1:
		return textOf(mild(r))
	}
	return textOf(float32(r%64)/16 - 0.5)
}

// walkedLine has one of the document's forms, but one of eight has a word more, or a byte less.
func walkedLine(r [4]uint32) string {
	line := []string{
		"steps " + textOfSteps(walkedSteps(r)), "pulse " + textOfPulse(walkedPulse(r)), "scan " + textOf(walkedScan(r)...), "steps", "pulse", "scan",
		"turn", fmt.Sprint("repeat ", int(r[2]%8)-1), "height " + walkedNumber(r[1]), "through " + walkedNumber(r[1]), "band " + walkedNumber(r[1]), "swing " + walkedNumber(r[1]),
		"turns", "lines", "mended", fmt.Sprint("pad ", r[2]%20), fmt.Sprint("soft ", int(r[2]%5)-1), "marks " + walkedNumber(r[1]), "clean " + walkedNumber(r[1]),
		fmt.Sprint("sharpen ", int(r[2]%9)-1), fmt.Sprint("ratio ", r[2]%5, r[3]%13),
	}[r[0]%21]
	switch r[3] >> 16 % 16 {
	case 0:
		return line + " "
	case 1:
		return line[:len(line)-1]
	}
	return line
}

func bitsOfDesk(d impl.Desk, ok bool) []int64 {
	p := []float32{d.Pulse.Rate, d.Pulse.Off, d.Pulse.Turn, d.Pulse.Time}
	return bitsOfAll(d.Steps.Edges, d.Steps.Heights, p, d.Scan, ok)
}

// deskWalk carries out one line after another at the same desk.
func deskWalk() func(r [4]uint32) []int64 {
	d := impl.NewDesk()
	return func(r [4]uint32) []int64 {
		after, output, ok := impl.DeskCommand(d, walkedLine(r))
		d = after
		return append(bitsOfAll(output, ok), bitsOfDesk(after, ok)...)
	}
}

// journalBits has scripts and journals of up to 6 lines, the latter ones with a byte that has become another one.
func journalBits(r [4]uint32) []int64 {
	var lines []string
	for i := range int(r[1] >> 8 % 7) {
		lines = append(lines, walkedLine(otherWords(r, i)))
	}
	d, outputs, ok := impl.RunDesk(impl.NewDesk(), linesOf(lines...))
	bits := append(bitsOfAll(outputs, ok), bitsOfDesk(d, ok)...)
	bits = append(bits, bitsOfAll(impl.CountOutputs(outputs))...)
	journal, ok := impl.JournalOf(lines)
	bits = append(bits, bitsOfAll(journal, ok)...)
	if journal == "" {
		return bits
	}
	place := int(r[2]>>3) % len(journal)
	bent := journal[:place] + string([]byte{journal[place] ^ byte(1<<(r[1]>>16%8))}) + journal[place+1:]
	for _, text := range []string{journal, bent, journal[:place], journal + bent} {
		recovered, n, ok := impl.RecoverJournal(text)
		bits = append(bits, bitsOfAll(int64(len(recovered)), n, ok)...)
		after, n, ok := impl.RunJournal(d, text)
		bits = append(append(bits, n), bitsOfDesk(after, ok)...)
	}
	return bits
}

// TestWalksOfDesks holds folded results against those of another program, as TestWalks does.
func TestWalksOfDesks(t *testing.T) {
	wantWalks(t, deskSteps, []walkTo{
		{"DeskCommand", 121, deskWalk(), 0xf09843345a1f2489},
		{"RunDesk, CountOutputs, JournalOf, RecoverJournal and RunJournal", 122, journalBits, 0xfd32b36fef890ca2},
	})
}
