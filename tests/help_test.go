package tests

import (
	"fmt"
	"math"
	"reflect"
	"strings"
	"testing"

	"loop.example/g01403/impl"
)

const (
	zeroBits        = 0x00000000
	minusZeroBits   = 0x80000000
	leastBits       = 0x00000001
	lastSubnormal   = 0x007fffff
	firstNormal     = 0x00800000
	oneBits         = 0x3f800000
	greatestBits    = 0x7f7fffff
	infinityBits    = 0x7f800000
	minusInfinity   = 0xff800000
	notANumberBits  = 0x7fc00000
	otherNotANumber = 0xffc00001
	quietLess       = 0x7f800001
)

// strangeBits are those of numbers at which functions change what they do.
func strangeBits() []uint32 {
	return []uint32{
		zeroBits, minusZeroBits, leastBits, 0x80000001, lastSubnormal, 0x807fffff,
		firstNormal, 0x80800000, oneBits, 0xbf800000, 0x3e800000, 0xbe800000, 0x3f000000, 0xbf000000,
		0x3f400000, 0x3fc00000, 0x43480000, 0x43480001, 0xc3480000, 0xc3480001, 0x59800000, 0xd9800000,
		greatestBits, 0xff7fffff, infinityBits, minusInfinity, notANumberBits, otherNotANumber, quietLess,
	}
}

func num(bits uint32) float32 { return math.Float32frombits(bits) }

func cplx(a, b uint32) complex64 { return complex(num(a), num(b)) }

// bitsOf is told without the package, with one kind of bits for all not-a-numbers.
func bitsOf(x float32) uint32 {
	if x != x {
		return notANumberBits
	}
	return math.Float32bits(x)
}

func wantBits(t *testing.T, what string, got float32, want uint32) {
	t.Helper()
	if bitsOf(got) != want {
		t.Errorf("%s: got %08x (%v), want %08x (%v)", what, bitsOf(got), got, want, num(want))
	}
}

func wantBothBits(t *testing.T, what string, got complex64, a, b uint32) {
	t.Helper()
	if bitsOf(real(got)) != a || bitsOf(imag(got)) != b {
		t.Errorf("%s: got %08x %08x %v, want %08x %08x", what, bitsOf(real(got)), bitsOf(imag(got)), got, a, b)
	}
}

// wantSum checks a result that succeeds.
func wantSum(t *testing.T, what string, got float32, ok bool, want uint32) {
	t.Helper()
	if !ok {
		t.Errorf("%s: fails", what)
	}
	wantBits(t, what, got, want)
}

// wantBothSum checks a complex result that succeeds.
func wantBothSum(t *testing.T, what string, got complex64, ok bool, a, b uint32) {
	t.Helper()
	if !ok {
		t.Errorf("%s: fails", what)
	}
	wantBothBits(t, what, got, a, b)
}

// wantFailure checks that a number is +0 beside a false.
func wantFailure(t *testing.T, what string, got float32, ok bool) {
	t.Helper()
	if ok {
		t.Errorf("%s: succeeds with %v", what, got)
	}
	wantBits(t, what, got, zeroBits)
}

// wantBothFailure checks that a complex number is +0 + 0 i beside a false.
func wantBothFailure(t *testing.T, what string, got complex64, ok bool) {
	t.Helper()
	if ok {
		t.Errorf("%s: succeeds with %v", what, got)
	}
	wantBothBits(t, what, got, zeroBits, zeroBits)
}

func wantBool(t *testing.T, what string, got, want bool) {
	t.Helper()
	if got != want {
		t.Errorf("%s: got %v, want %v", what, got, want)
	}
}

func wantText(t *testing.T, what, got string, ok bool, want string) {
	t.Helper()
	if !ok || got != want {
		t.Errorf("%s: got %q %v, want %q", what, got, ok, want)
	}
}

func repeatNumber(x float32, n int) []float32 {
	list := make([]float32, n)
	for i := range list {
		list[i] = x
	}
	return list
}

func repeatComplex(x complex64, n int) []complex64 {
	list := make([]complex64, n)
	for i := range list {
		list[i] = x
	}
	return list
}

// sameNumbers holds lists against each other, bit by bit.
func sameNumbers(a, b []float32) bool {
	if len(a) != len(b) {
		return false
	}
	for i := range a {
		if bitsOf(a[i]) != bitsOf(b[i]) {
			return false
		}
	}
	return true
}

func sameComplexes(a, b []complex64) bool {
	if len(a) != len(b) {
		return false
	}
	for i := range a {
		if bitsOf(real(a[i])) != bitsOf(real(b[i])) || bitsOf(imag(a[i])) != bitsOf(imag(b[i])) {
			return false
		}
	}
	return true
}

// say writes results down so that same ones are equal texts: the bits of numbers, with one kind of not-a-numbers.
func say(results ...any) string {
	var b strings.Builder
	for _, r := range results {
		switch x := r.(type) {
		case float32:
			fmt.Fprintf(&b, "%08x ", bitsOf(x))
		case complex64:
			fmt.Fprintf(&b, "%08x+%08x ", bitsOf(real(x)), bitsOf(imag(x)))
		case []float32:
			for _, y := range x {
				fmt.Fprintf(&b, "%08x,", bitsOf(y))
			}
		case []complex64:
			for _, y := range x {
				fmt.Fprintf(&b, "%08x+%08x,", bitsOf(real(y)), bitsOf(imag(y)))
			}
		case impl.Steps:
			b.WriteString(say(x.Edges) + "|" + say(x.Heights))
		case []string:
			fmt.Fprintf(&b, "%q ", x)
		case impl.Pulse:
			b.WriteString(say(x.Rate, x.Off, x.Turn, x.Time))
		case impl.Desk:
			b.WriteString(say(x.Steps) + "|" + say(x.Pulse) + "|" + say(x.Scan) + "; ")
		case impl.Line:
			b.WriteString(lineText(x) + " ")
		case []impl.Line:
			for _, y := range x {
				b.WriteString(lineText(y) + ",")
			}
		case impl.Saved:
			fmt.Fprintf(&b, "%q ", x.Name)
			b.WriteString(say(x.Lines) + "|" + say(x.List) + "|" + say(x.Phases))
		case []impl.Saved:
			for _, y := range x {
				b.WriteString(say(y) + "; ")
			}
		default:
			fmt.Fprintf(&b, "%v ", x)
		}
	}
	return b.String()
}

func lineText(l impl.Line) string {
	return fmt.Sprintf("%08x|%08x|%08x|%d", bitsOf(l.Place), bitsOf(l.Height), bitsOf(l.Width), l.Kind)
}

func twice(t *testing.T, what string, call func() string) {
	t.Helper()
	if first, second := call(), call(); first != second {
		t.Errorf("%s: %s, and then %s", what, first, second)
	}
}

// withRoom returns a copy of a list whose memory goes on behind its end, and all of this memory.
func withRoom[T any](list []T, behind T) ([]T, []T) {
	all := append(append([]T{}, list...), behind, behind, behind)
	return all[:len(list)], all
}

// overwriter returns what writes over results, which must be lists of something, and over the memory behind their ends.
func overwriter[T any](t *testing.T, with T) func(list []T, ok bool) {
	return func(list []T, ok bool) {
		t.Helper()
		wantBool(t, "a list", ok && len(list) > 0, true)
		all := list[:cap(list)]
		for i := range all {
			all[i] = with
		}
	}
}

// told is what functions say, beside what they should say.
type told struct {
	what, got, want string
}

func wantTold(t *testing.T, list []told) {
	t.Helper()
	for _, x := range list {
		if x.got != x.want {
			t.Errorf("%s: got %s, want %s", x.what, x.got, x.want)
		}
	}
}

// failing is what fails says about a call.
type failing struct {
	what, said string
}

func wantFailing(t *testing.T, list []failing) {
	t.Helper()
	for _, x := range list {
		if x.said != "" {
			t.Errorf("%s: does not fail with zero values, but gives %s", x.what, x.said)
		}
	}
}

// fails returns nothing if results are zero values beside a false, and what they are otherwise.
func fails(results ...any) string {
	last := len(results) - 1
	for _, r := range results[:last] {
		if !isZeroResult(reflect.ValueOf(r)) {
			return say(results...)
		}
	}
	if results[last] != false {
		return say(results...)
	}
	return ""
}

// isZeroResult takes empty lists for nil ones, and -0 for no zero value.
func isZeroResult(v reflect.Value) bool {
	switch v.Kind() {
	case reflect.Slice:
		return v.Len() == 0
	case reflect.Struct:
		for i := range v.NumField() {
			if !isZeroResult(v.Field(i)) {
				return false
			}
		}
		return true
	}
	return v.IsZero()
}

func TestConstantsOfChapter1(t *testing.T) {
	if impl.MaxNumbers != 256 || impl.MaxValue != 1000000000000000 || impl.MaxItems != 64 || impl.CheckSize != 65003 {
		t.Error("a limit of chapter 1 is not as the document has it")
	}
}

func TestConstantsOfChapter2(t *testing.T) {
	if impl.MaxPieces != 12 || impl.MaxGrid != 48 || impl.MaxWorkers != 8 {
		t.Error("a limit of chapter 2 is not as the document has it")
	}
}

func TestConstantsOfChapter3(t *testing.T) {
	if impl.MaxTurn != 6 || impl.MaxBoth != 12 || impl.MaxRotor != 40 || impl.MaxShell != 2 {
		t.Error("a limit of chapter 3 is not as the document has it")
	}
}

func TestConstantsOfChapter4(t *testing.T) {
	if impl.MaxLevels != 6 || impl.MaxSpins != 32 || impl.MaxTimes != 512 {
		t.Error("a limit of chapter 4 is not as the document has it")
	}
}

func TestConstantsOfChapter5(t *testing.T) {
	if impl.MaxLines != 12 || impl.MaxSpectrum != 128 || impl.MaxFit != 6 || impl.MaxEdges != 32 {
		t.Error("a limit of chapter 5 is not as the document has it")
	}
}

func TestConstantsOfChapter6(t *testing.T) {
	if impl.MaxBins != 64 || impl.MaxLamps != 16 || impl.MaxFilms != 8 {
		t.Error("a limit of chapter 6 is not as the document has it")
	}
}

func TestConstantsOfChapter7(t *testing.T) {
	if impl.MaxLibrary != 8 || impl.MaxShares != 6 || impl.MaxSaved != 8 {
		t.Error("a limit of chapter 7 is not as the document has it")
	}
}

func TestConstantsOfChapter8(t *testing.T) {
	if impl.MaxScript != 16000 {
		t.Error("a limit of chapter 8 is not as the document has it")
	}
}
