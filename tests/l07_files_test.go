package tests

import (
	"fmt"
	"math"
	"slices"
	"strings"
	"testing"

	"loop.example/g01403/impl"
)

func littleFour(x float32) string {
	bits := math.Float32bits(x)
	return string([]byte{byte(bits), byte(bits >> 8), byte(bits >> 16), byte(bits >> 24)})
}

// checkNumber is told without the package.
func checkNumber(body string) int { return checkFrom(0, body) }

// checkFrom is the check number that begins with another one.
func checkFrom(check int, body string) int {
	for i := range len(body) {
		check = (977*check + int(body[i]) + 233) % 65003
	}
	return check
}

func withCheck(body string, check int) string {
	return body + string([]byte{byte(check), byte(check >> 8)})
}

// bodyOf returns the bytes of what is saved, valid or not, before the check number, told without the package.
func bodyOf(s impl.Saved) string {
	count := func(n int) string { return string([]byte{byte(n)}) }
	body := "LIN1" + count(len(s.Name)) + s.Name + count(len(s.Lines))
	for _, l := range s.Lines {
		body += littleFour(l.Place) + littleFour(l.Height) + littleFour(l.Width) + count(int(l.Kind))
	}
	body += count(len(s.List))
	for _, x := range s.List {
		body += littleFour(x)
	}
	body += count(len(s.Phases))
	for _, x := range s.Phases {
		body += littleFour(real(x)) + littleFour(imag(x))
	}
	return body
}

func bytesOf(s impl.Saved) string { return withCheck(bodyOf(s), checkNumber(bodyOf(s))) }

func smallSaved() impl.Saved {
	return impl.Saved{Name: "a", Lines: []impl.Line{line(1, 2, 1, 0)}, List: []float32{1}, Phases: []complex64{1}}
}

func richSaved() impl.Saved {
	return impl.Saved{Name: "lines", Lines: fourKinds, List: crooked, Phases: []complex64{1, -2i, complex(0.1, minusZero)}}
}

// fullSaved has as much of everything as it can have.
func fullSaved() impl.Saved {
	return impl.Saved{Name: "zyxwvuts", Lines: repeatLine(line(-1, 0, least, 3), 12), List: repeatNumber(greatest, 128), Phases: repeatComplex(complex(minusZero, -greatest), 128)}
}

// bareSaved has nothing but a name and one number.
func bareSaved() impl.Saved { return impl.Saved{Name: "q", List: []float32{minusZero}} }

// TestBytesOfSaved has the bytes of another program, in another language.
func TestBytesOfSaved(t *testing.T) {
	small := "LIN1\x01a\x01\x00\x00\x80\x3f\x00\x00\x00\x40\x00\x00\x80\x3f\x00\x01\x00\x00\x80\x3f\x01\x00\x00\x80\x3f\x00\x00\x00\x00\x26\x85"
	bare := "LIN1\x01q\x00\x01\x00\x00\x00\x80\x00\xcf\x8c"
	wantTold(t, []told{
		{"StoreSaved of a small one", say(impl.StoreSaved(smallSaved())), say(small, true)},
		{"StoreSaved of a bare one", say(impl.StoreSaved(bareSaved())), say(bare, true)},
	})
	for _, s := range []impl.Saved{smallSaved(), richSaved(), fullSaved(), bareSaved()} {
		wantBool(t, "ValidSaved", impl.ValidSaved(s), true)
		wantTold(t, []told{
			{"StoreSaved of " + s.Name, say(impl.StoreSaved(s)), say(bytesOf(s), true)},
			{"LoadSaved of " + s.Name, say(impl.LoadSaved(bytesOf(s))), say(s, true)},
			{"StoreAll of " + s.Name, say(impl.StoreAll([]impl.Saved{s})), say(bytesOf(s), true)},
			{"RecoverAll of " + s.Name, say(impl.RecoverAll(bytesOf(s))), say([]impl.Saved{s}, int64(len(bytesOf(s))), true)},
		})
	}
}

// brokenSaved are valid but for one part; their bytes tell the same.
func brokenSaved() []impl.Saved {
	var list []impl.Saved
	add := func(change func(s *impl.Saved)) {
		s := richSaved()
		change(&s)
		list = append(list, s)
	}
	for _, name := range []string{"", "abcdefghi", "A", "aB", "a1", "a ", " a", "a\n", "a\x00", "a_", "`", "{", "\u00e9", "a\xff", "lin\x80"} {
		add(func(s *impl.Saved) { s.Name = name })
	}
	add(func(s *impl.Saved) { s.Name = strings.Repeat("a", 255) })
	for _, l := range invalidLines() {
		if byte(l.Kind) > 3 || l.Kind == int64(byte(l.Kind)) {
			add(func(s *impl.Saved) { s.Lines = []impl.Line{l} })
			add(func(s *impl.Saved) { s.Lines = append(repeatLine(line(1, 1, 1, 1), 3), l) })
		}
	}
	for _, n := range []int{13, 14, 255} {
		add(func(s *impl.Saved) { s.Lines = repeatLine(line(1, 1, 1, 1), n) })
	}
	add(func(s *impl.Saved) { s.List = nil })
	for _, n := range []int{129, 130, 255} {
		add(func(s *impl.Saved) { s.List = repeatNumber(1, n) })
		add(func(s *impl.Saved) { s.Phases = repeatComplex(1, n) })
	}
	for _, x := range notFinite() {
		add(func(s *impl.Saved) { s.List = []float32{x} })
		add(func(s *impl.Saved) { s.List = setAt(repeatNumber(1, 128), 127, x) })
		add(func(s *impl.Saved) { s.Phases = []complex64{1, complex(x, 1)} })
		add(func(s *impl.Saved) { s.Phases = []complex64{complex(1, x), 1} })
	}
	return list
}

// TestBrokenSavedAreRefused tries to store them, and to load the bytes that they would have.
func TestBrokenSavedAreRefused(t *testing.T) {
	others := []impl.Saved{}
	for _, kind := range wrongKinds() {
		s := richSaved()
		s.Lines = []impl.Line{line(1, 1, 1, kind)}
		others = append(others, s)
	}
	for _, n := range []int{256, 257, 300} {
		a, b, c, d := richSaved(), richSaved(), richSaved(), richSaved()
		a.Lines, b.List, c.Phases, d.Name = repeatLine(line(1, 1, 1, 1), n), repeatNumber(1, n), repeatComplex(1, n), strings.Repeat("a", n)
		others = append(others, a, b, c, d)
	}
	for _, s := range append(others, brokenSaved()...) {
		what := fmt.Sprintf(" of %.90s", say(s))
		wantBool(t, "ValidSaved"+what, impl.ValidSaved(s), false)
		wantFailing(t, []failing{
			{"StoreSaved" + what, fails(impl.StoreSaved(s))},
			{"StoreAll" + what, fails(impl.StoreAll([]impl.Saved{s}))},
			{"StoreAll, first," + what, fails(impl.StoreAll([]impl.Saved{s, smallSaved()}))},
			{"StoreAll, last," + what, fails(impl.StoreAll([]impl.Saved{smallSaved(), smallSaved(), s}))},
		})
	}
	small := bytesOf(smallSaved())
	for _, s := range brokenSaved() {
		what := fmt.Sprintf(" of the bytes of %.90s", say(s))
		wantFailing(t, []failing{{"LoadSaved" + what, fails(impl.LoadSaved(bytesOf(s)))}})
		wantTold(t, []told{
			{"RecoverAll" + what, say(impl.RecoverAll(bytesOf(s))), say([]impl.Saved{}, int64(0), true)},
			{"RecoverAll behind others" + what, say(impl.RecoverAll(small + bytesOf(s) + small)), say([]impl.Saved{smallSaved()}, int64(len(small)), true)},
		})
	}
}

// wantNothingStored checks that a text begins with nothing stored.
func wantNothingStored(t *testing.T, what, text string) {
	t.Helper()
	wantFailing(t, []failing{{"LoadSaved of " + what, fails(impl.LoadSaved(text))}})
	wantTold(t, []told{{"RecoverAll of " + what, say(impl.RecoverAll(text)), say([]impl.Saved{}, int64(0), true)}})
}

// TestTextsThatAreCut are cut everywhere, or have something behind them.
func TestTextsThatAreCut(t *testing.T) {
	for _, s := range []impl.Saved{smallSaved(), richSaved(), fullSaved(), bareSaved()} {
		text := bytesOf(s)
		for n := range len(text) {
			wantNothingStored(t, fmt.Sprintf("%d of %d bytes", n, len(text)), text[:n])
			if n > 0 {
				wantNothingStored(t, fmt.Sprintf("%d bytes but the first %d", len(text), n), text[n:])
			}
		}
		for _, behind := range []string{"\x00", "x", "LIN1", text[:len(text)-1], text} {
			wantFailing(t, []failing{{"LoadSaved with something behind it", fails(impl.LoadSaved(text + behind))}})
			wantFailing(t, []failing{{"LoadSaved with something before it", fails(impl.LoadSaved(behind + text))}})
		}
	}
	for _, text := range []string{"", "L", "LIN", "LIN1", "LIN1\x00", "LIN1\xff", "LIN1\x00\x00\x00\x00\x00\x00", strings.Repeat("\x00", 100), strings.Repeat("\xff", 100), strings.Repeat("LIN1", 100), "none"} {
		wantNothingStored(t, fmt.Sprintf("%q", text), text)
	}
}

// TestTextsThatAreBent turns each bit round, and puts other bytes at each place.
func TestTextsThatAreBent(t *testing.T) {
	for _, s := range []impl.Saved{smallSaved(), richSaved(), bareSaved()} {
		text := bytesOf(s)
		for i := range len(text) {
			for bit := range 8 {
				bent := text[:i] + string([]byte{text[i] ^ 1<<bit}) + text[i+1:]
				wantNothingStored(t, fmt.Sprintf("bytes of %s with the bit %d of %d turned", s.Name, bit, i), bent)
			}
			wantNothingStored(t, "bytes without one", text[:i]+text[i+1:])
			wantNothingStored(t, "bytes with one more", text[:i]+"\x00"+text[i:])
		}
	}
	for _, mark := range []string{"LIN0", "LIN2", "lin1", "LIM1", "\x00\x00\x00\x00", "1NIL"} {
		body := mark + bodyOf(richSaved())[4:]
		wantNothingStored(t, "bytes that begin with "+mark, withCheck(body, checkNumber(body)))
	}
}

// TestChecksHaveOneNumberOnly: a greater one with the same remainder is another one.
func TestChecksHaveOneNumberOnly(t *testing.T) {
	found := 0
	for i := range 2000 {
		s := impl.Saved{Name: "check", List: []float32{float32(i)}}
		body := bodyOf(s)
		check := checkNumber(body)
		wantTold(t, []told{{"LoadSaved", say(impl.LoadSaved(withCheck(body, check))), say(s, true)}})
		for _, other := range []int{check + 65003, (check + 1) % 65003, check ^ 0xff00, check>>8 | check&0xff<<8} {
			if other < 65536 && other != check {
				wantNothingStored(t, "bytes with another check number", withCheck(body, other))
			}
		}
		if check+65003 < 65536 {
			found++
		}
	}
	wantBool(t, "some check numbers have a greater one with the same remainder", found > 3, true)
}

// TestManyAreStoredAndRecovered stores up to 8 of them, and recovers them from texts that are cut anywhere.
func TestManyAreStoredAndRecovered(t *testing.T) {
	kinds := []impl.Saved{smallSaved(), richSaved(), bareSaved(), smallSaved()}
	for many := range 11 {
		var list []impl.Saved
		text, ends := "", []int{0}
		for i := range many {
			list = append(list, kinds[i%len(kinds)])
			text += bytesOf(list[i])
			ends = append(ends, len(text))
		}
		all, ok := impl.StoreAll(list)
		if many > 8 {
			wantFailing(t, []failing{{fmt.Sprintf("StoreAll of %d", many), fails(all, ok)}})
		} else {
			wantText(t, fmt.Sprintf("StoreAll of %d", many), all, ok, text)
		}
		for cut := 0; cut <= len(text); cut++ {
			whole := 0
			for whole < min(many, 8) && ends[whole+1] <= cut {
				whole++
			}
			wantTold(t, []told{{fmt.Sprintf("RecoverAll of %d, cut at %d", many, cut), say(impl.RecoverAll(text[:cut])), say(list[:whole], int64(ends[whole]), true)}})
		}
		whole := min(many, 8)
		for _, behind := range []string{"x", "LIN1", "LIN1\x01", bytesOf(smallSaved())[:20] + "\x00"} {
			wantTold(t, []told{{"RecoverAll with something behind", say(impl.RecoverAll(text + behind)), say(list[:whole], int64(ends[whole]), true)}})
		}
	}
	wantFailing(t, []failing{{"StoreAll of too many that are not valid", fails(impl.StoreAll(make([]impl.Saved, 9)))}})
}

// TestSameSaved changes one part after another, in what is valid, and in what is not.
func TestSameSaved(t *testing.T) {
	one := func(s impl.Saved) []impl.Saved { return []impl.Saved{s} }
	s := richSaved()
	wantBool(t, "SameSaved", impl.SameSaved(one(s), one(richSaved())), true)
	changes := map[string]func(s *impl.Saved){
		"name":          func(s *impl.Saved) { s.Name = "linet" },
		"longer name":   func(s *impl.Saved) { s.Name = "linest" },
		"no name":       func(s *impl.Saved) { s.Name = "" },
		"line":          func(s *impl.Saved) { s.Lines = slices.Clone(s.Lines); s.Lines[3].Kind = 2 },
		"last place":    func(s *impl.Saved) { s.Lines = slices.Clone(s.Lines); s.Lines[3].Place = 2.5 },
		"fewer lines":   func(s *impl.Saved) { s.Lines = s.Lines[:3] },
		"no lines":      func(s *impl.Saved) { s.Lines = nil },
		"number":        func(s *impl.Saved) { s.List = setAt(s.List, 8, 1.2) },
		"fewer numbers": func(s *impl.Saved) { s.List = s.List[:8] },
		"no numbers":    func(s *impl.Saved) { s.List = nil },
		"real part":     func(s *impl.Saved) { s.Phases = []complex64{1, -2i, complex(0.2, minusZero)} },
		"sign of zero":  func(s *impl.Saved) { s.Phases = []complex64{1, -2i, complex(0.1, 0)} },
		"fewer phases":  func(s *impl.Saved) { s.Phases = s.Phases[:2] },
		"no phases":     func(s *impl.Saved) { s.Phases = nil },
	}
	for what, change := range changes {
		other := richSaved()
		change(&other)
		wantBool(t, "SameSaved of another "+what, impl.SameSaved(one(s), one(other)), false)
		wantBool(t, "SameSaved of another, the other way round, "+what, impl.SameSaved(one(other), one(s)), false)
		wantBool(t, "SameSaved of the last one with another "+what, impl.SameSaved([]impl.Saved{s, other, s}, []impl.Saved{s, other, other}), false)
		wantBool(t, "SameSaved of the same with another "+what, impl.SameSaved([]impl.Saved{s, other}, []impl.Saved{s, other}), true)
	}
	for n := range 10 {
		for k := range 10 {
			wantBool(t, fmt.Sprintf("SameSaved of %d and %d", n, k), impl.SameSaved(make([]impl.Saved, n), make([]impl.Saved, k)), n == k)
		}
	}
	empty := impl.Saved{Lines: []impl.Line{}, List: []float32{}, Phases: []complex64{}}
	wantBool(t, "SameSaved of nil and empty lists", impl.SameSaved(one(empty), one(impl.Saved{})), true)
	wantBool(t, "SameSaved of nil and none", impl.SameSaved(nil, []impl.Saved{}), true)
}

func TestSameSavedHaveTheSameNumbers(t *testing.T) {
	for _, a := range strangeBits() {
		for _, b := range strangeBits() {
			x, y, want := num(a), num(b), bitsOf(num(a)) == bitsOf(num(b))
			pairs := [][2]impl.Saved{
				{{List: []float32{1, x}}, {List: []float32{1, y}}},
				{{Phases: []complex64{complex(x, 1)}}, {Phases: []complex64{complex(y, 1)}}},
				{{Phases: []complex64{complex(1, x)}}, {Phases: []complex64{complex(1, y)}}},
				{{Lines: []impl.Line{line(1, x, 1, 9)}}, {Lines: []impl.Line{line(1, y, 1, 9)}}},
			}
			for _, pair := range pairs {
				wantBool(t, fmt.Sprintf("SameSaved of %08x and %08x", a, b), impl.SameSaved(pair[:1], pair[1:]), want)
			}
		}
	}
}
