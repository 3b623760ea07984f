package tests

import (
	"math"
	"slices"
	"strings"
	"testing"

	"loop.example/g01403/impl"
)

func TestNumbersText(t *testing.T) {
	list := []float32{1, -2, num(minusZeroBits), num(leastBits), num(otherNotANumber), num(minusInfinity)}
	text, ok := impl.NumbersText(list)
	wantText(t, "NumbersText", text, ok, "3f800000,c0000000,80000000,00000001,7fc00000,ff800000")
	text, ok = impl.NumbersText(nil)
	wantText(t, "NumbersText of none", text, ok, "none")
	text, ok = impl.NumbersText([]float32{0})
	wantText(t, "NumbersText of 0", text, ok, "00000000")
	text, ok = impl.NumbersText(repeatNumber(1, 256))
	wantText(t, "NumbersText of many", text, ok, strings.Repeat("3f800000,", 255)+"3f800000")
	if text, ok := impl.NumbersText(repeatNumber(1, 257)); ok || text != "" {
		t.Errorf("NumbersText of too many: %q %v", text, ok)
	}
}

func TestComplexText(t *testing.T) {
	list := []complex64{1, complex(0, -2), cplx(minusZeroBits, quietLess), cplx(minusInfinity, leastBits)}
	text, ok := impl.ComplexText(list)
	wantText(t, "ComplexText", text, ok, "3f80000000000000,00000000c0000000,800000007fc00000,ff80000000000001")
	text, ok = impl.ComplexText([]complex64{})
	wantText(t, "ComplexText of none", text, ok, "none")
	text, ok = impl.ComplexText(repeatComplex(1, 256))
	wantText(t, "ComplexText of many", text, ok, strings.Repeat("3f80000000000000,", 255)+"3f80000000000000")
	if text, ok := impl.ComplexText(repeatComplex(1, 257)); ok || text != "" {
		t.Errorf("ComplexText of too many: %q %v", text, ok)
	}
}

func TestReadNumbers(t *testing.T) {
	cases := []struct {
		s    string
		want []float32
	}{
		{"none", nil},
		{"3f800000", []float32{1}},
		{"3f800000,c0000000,80000000", []float32{1, -2, num(minusZeroBits)}},
		{"00000000,00000001,7f800000,ff800000,7fc00000", []float32{0, num(leastBits), num(infinityBits), num(minusInfinity), num(notANumberBits)}},
		{"0a1b2c3d,4e5f6789", []float32{num(0x0a1b2c3d), num(0x4e5f6789)}},
		{strings.Repeat("3f800000,", 255) + "3f800000", repeatNumber(1, 256)},
	}
	for _, c := range cases {
		got, ok := impl.ReadNumbers(c.s)
		if !ok || !sameNumbers(got, c.want) {
			t.Errorf("ReadNumbers %q: got %v %v, want %v", c.s, got, ok, c.want)
		}
	}
}

func TestReadNumbersFails(t *testing.T) {
	for _, s := range append(noneOfAnything(),
		"3f80000", "3f8000000", "3f800000,", ",3f800000", "3f800000,,3f800000", "3f800000, 3f800000", "3f800000 ", " 3f800000", "3f800000;3f800000",
		"3F800000", "3f80000g", "3f80000/", "3f80000:", "3f80000`", "3f80000@", "3f80000G", "0x3f8000", "+3f80000", "-3f80000", "3f_80000", "3f800000\n", "3f800000\x00",
		"7fc00001", "ffc00000", "7f800001", "ff800001", "7fffffff", "ffffffff", "3f800000,7fc00001",
		"3f8000\u00e9", "\u0661f800000", "3f80000\u0660", "\xff\xff\xff\xff\xff\xff\xff\xff", "none,3f800000", "3f800000,none", "3f80000000000000",
		strings.Repeat("3f800000,", 256)+"3f800000",
	) {
		if got, ok := impl.ReadNumbers(s); ok || len(got) != 0 {
			t.Errorf("ReadNumbers %q: got %v %v, want a failure", s, got, ok)
		}
	}
}

// noneOfAnything are texts that no list has.
func noneOfAnything() []string {
	return []string{"", ",", " ", "None", "NONE", "none ", " none", "none\n", "none,", ",none", "none,none", "non", "nonee", "\x00", "\xff", "null"}
}

func TestReadComplex(t *testing.T) {
	cases := []struct {
		s    string
		want []complex64
	}{
		{"none", nil},
		{"3f80000000000000", []complex64{1}},
		{"3f80000000000000,00000000c0000000", []complex64{1, complex(0, -2)}},
		{"800000007fc00000,ff80000000000001", []complex64{cplx(minusZeroBits, notANumberBits), cplx(minusInfinity, leastBits)}},
		{strings.Repeat("3f80000000000000,", 255) + "3f80000000000000", repeatComplex(1, 256)},
	}
	for _, c := range cases {
		got, ok := impl.ReadComplex(c.s)
		if !ok || !sameComplexes(got, c.want) {
			t.Errorf("ReadComplex %q: got %v %v, want %v", c.s, got, ok, c.want)
		}
	}
}

func TestReadComplexFails(t *testing.T) {
	for _, s := range append(noneOfAnything(),
		"3f800000", "3f800000,00000000", "3f80000000000000,", ",3f80000000000000", "3f80000000000000,3f800000", "3f8000000000000", "3f800000000000000",
		"3f800000 00000000", "3f800000,0000000", "3F80000000000000", "3f8000000000000G", "g f8000000000000", "3f80000\u00e90000000", "3f80000000000000\n",
		"7fc0000100000000", "000000007fc00001", "00000000ffc00000", "ffc0000000000000", "none,3f80000000000000",
		strings.Repeat("3f80000000000000,", 256)+"3f80000000000000",
	) {
		if got, ok := impl.ReadComplex(s); ok || len(got) != 0 {
			t.Errorf("ReadComplex %q: got %v %v, want a failure", s, got, ok)
		}
	}
}

func TestTextsAreReadBack(t *testing.T) {
	var numbers []float32
	var both []complex64
	for i := range uint32(256) {
		numbers = append(numbers, num(i*16843009+i*i*65521))
		both = append(both, complex(numbers[i], num(i*2654435761)))
	}
	text, _ := impl.NumbersText(numbers)
	if got, ok := impl.ReadNumbers(text); !ok || !sameNumbers(got, numbers) {
		t.Errorf("numbers are read back as %v %v", got, ok)
	}
	text, _ = impl.ComplexText(both)
	if got, ok := impl.ReadComplex(text); !ok || !sameComplexes(got, both) {
		t.Errorf("complex numbers are read back as %v %v", got, ok)
	}
}

func TestIsName(t *testing.T) {
	for _, s := range []string{"a", "z", "ring", "abcdefgh", "zzzzzzzz", "none"} {
		wantBool(t, "IsName "+s, impl.IsName(s), true)
	}
	for _, s := range []string{"", "abcdefghi", "A", "aB", "a1", "a b", " a", "a ", "a\n", "`", "{", "\u00e9", "a\u00e9", "\xff", "a\x00", "a-b", "a,b"} {
		wantBool(t, "IsName "+s, impl.IsName(s), false)
	}
}

func TestDecimal(t *testing.T) {
	cases := map[int64]string{
		0: "0", 7: "7", -4: "-4", 10: "10", 1000000000000000: "1000000000000000", -1000000000000000: "-1000000000000000",
		1000000000000001: "1000000000000001", math.MaxInt64: "9223372036854775807", math.MinInt64: "-9223372036854775808",
	}
	for n, want := range cases {
		if got := impl.Decimal(n); got != want {
			t.Errorf("Decimal %d: got %q", n, got)
		}
	}
}

func TestReadDecimal(t *testing.T) {
	cases := map[string]int64{
		"0": 0, "7": 7, "-4": -4, "10": 10, "-10": -10, "1000000000000000": 1000000000000000, "-1000000000000000": -1000000000000000,
		"999999999999999": 999999999999999,
	}
	for s, want := range cases {
		if got, ok := impl.ReadDecimal(s); !ok || got != want {
			t.Errorf("ReadDecimal %q: got %d %v", s, got, ok)
		}
	}
	for _, s := range append(noneOfAnything(), "none",
		"-", "+", "-0", "+0", "00", "01", "-01", "+1", "--1", "1-", "1 ", " 1", "1\n", "1.0", "1e3", "1_000", "0x1", "a", "1a", "1,2",
		"1000000000000001", "-1000000000000001", "9223372036854775807", "9223372036854775808", "-9223372036854775808", "99999999999999999999999", "18446744073709551617",
		"\u0661", "\uff11", "1\x00",
	) {
		if got, ok := impl.ReadDecimal(s); ok || got != 0 {
			t.Errorf("ReadDecimal %q: got %d %v, want a failure", s, got, ok)
		}
	}
}

func TestListText(t *testing.T) {
	text, ok := impl.ListText([]int64{0, -4, 1000000000000000, -1000000000000000})
	wantText(t, "ListText", text, ok, "0,-4,1000000000000000,-1000000000000000")
	text, ok = impl.ListText(nil)
	wantText(t, "ListText of none", text, ok, "none")
	text, ok = impl.ListText(make([]int64, 64))
	wantText(t, "ListText of many", text, ok, strings.Repeat("0,", 63)+"0")
	for _, list := range [][]int64{make([]int64, 65), {1000000000000001}, {1, -1000000000000001}, {math.MinInt64}, {math.MaxInt64}} {
		if text, ok := impl.ListText(list); ok || text != "" {
			t.Errorf("ListText %v: got %q %v, want a failure", list, text, ok)
		}
	}
}

func TestReadList(t *testing.T) {
	cases := map[string][]int64{
		"none": nil, "0": {0}, "0,-4,1000000000000000,-1000000000000000": {0, -4, 1000000000000000, -1000000000000000}, "3,3,1": {3, 3, 1},
		strings.Repeat("0,", 63) + "0": make([]int64, 64),
	}
	for s, want := range cases {
		if got, ok := impl.ReadList(s); !ok || !slices.Equal(got, want) {
			t.Errorf("ReadList %q: got %v %v, want %v", s, got, ok, want)
		}
	}
	for _, s := range append(noneOfAnything(),
		"1,", ",1", "1,,2", "1, 2", "1 ,2", "1;2", "01", "1,-0", "+1", "1,a", "1000000000000001", "1,-1000000000000001", "none,1", "1,none", "1\n",
		strings.Repeat("0,", 64)+"0", strings.Repeat(",", 64),
	) {
		if got, ok := impl.ReadList(s); ok || len(got) != 0 {
			t.Errorf("ReadList %q: got %v %v, want a failure", s, got, ok)
		}
	}
}

func TestCheckOf(t *testing.T) {
	cases := []struct {
		start int64
		s     string
		want  int64
	}{
		{0, "", 0}, {65002, "", 65002}, {0, "a", 330}, {1, "a", 1307}, {0, "\x00", 233}, {0, "\xff", 488}, {65002, "a", 64356},
		{0, "ab", (977*330 + 98 + 233) % 65003}, {0, "ba", (977*331 + 97 + 233) % 65003}, {330, "b", (977*330 + 98 + 233) % 65003},
		{0, "\u00e9", (977*(0xc3+233) + 0xa9 + 233) % 65003},
	}
	for _, c := range cases {
		if got, ok := impl.CheckOf(c.start, c.s); !ok || got != c.want {
			t.Errorf("CheckOf %d %q: got %d %v, want %d", c.start, c.s, got, ok, c.want)
		}
	}
	for _, start := range []int64{-1, 65003, math.MinInt64, math.MaxInt64} {
		for _, s := range []string{"", "a"} {
			if got, ok := impl.CheckOf(start, s); ok || got != 0 {
				t.Errorf("CheckOf %d %q: got %d %v, want a failure", start, s, got, ok)
			}
		}
	}
}

func TestCheckOfLongTexts(t *testing.T) {
	s := strings.Repeat("lines of light \xfe", 5000)
	want := int64(17)
	for _, b := range []byte(s) {
		want = (want*977 + int64(b) + 233) % 65003
	}
	if got, ok := impl.CheckOf(17, s); !ok || got != want {
		t.Errorf("CheckOf a long text: got %d %v, want %d", got, ok, want)
	}
}
