package tests

import (
	"fmt"
	"math"
	"reflect"
	"strings"
	"testing"

	"loop.example/g01403/impl"
)

// TestNumbersReturn calls every function of one or two numbers with all kinds of them, twice.
func TestNumbersReturn(t *testing.T) {
	for _, i := range strangeBits() {
		for _, j := range strangeBits() {
			x, y, z := num(i), num(j), cplx(i, j)
			twice(t, fmt.Sprintf("numbers %08x %08x", i, j), func() string {
				tenths, ok := impl.TenthsOf(x)
				return say(impl.SameNumber(x, y), impl.IsFinite(x), impl.BitsOf(x), impl.IsSubnormal(x), impl.FlushNumber(x), impl.ScaleComplex(z, x),
					impl.IsFiniteComplex(z), impl.ConjugateOf(z), impl.PowerOf(z), impl.LongOf(z), impl.AngleOf(z), impl.SineTurns(x), impl.AngleTurns(y, x),
					tenths, ok, impl.RootNumber(x), impl.ExpNumber(x), impl.LogNumber(x), impl.NarrowNumber(float64(x)*float64(y)),
					impl.NarrowComplex(complex(float64(x), float64(y)*float64(y))), impl.PhasorOf(float64(x)+float64(y)), impl.PhasorOf(float64(x)*float64(y)))
			})
			for _, k := range strangeBits() {
				u := cplx(k, i)
				twice(t, fmt.Sprintf("numbers %08x %08x %08x", i, j, k), func() string {
					return say(impl.SameComplex(z, u), impl.MulComplex(z, u), impl.QuotientOf(z, u))
				})
			}
		}
	}
}

// TestWideNumbersReturn walks over bits of 64-bit numbers.
func TestWideNumbersReturn(t *testing.T) {
	for i := range uint64(4096) {
		x := math.Float64frombits(i<<52 | i*i*i*0x9e3779b97f4a7c15>>12)
		twice(t, fmt.Sprintf("wide %v", x), func() string {
			return say(impl.NarrowNumber(x), impl.PhasorOf(x), impl.NarrowComplex(complex(x, -x)))
		})
	}
}

func TestIntegersAndTextsReturn(t *testing.T) {
	integers := []int64{math.MinInt64, -impl.MaxValue - 1, -impl.MaxValue, -1, 0, 1, impl.CheckSize - 1, impl.CheckSize, 4294967295, 4294967296, impl.MaxValue, impl.MaxValue + 1, math.MaxInt64}
	texts := []string{"", "none", "a", "0", "-0", "3f800000", "3f80000000000000", "7fc00001", ",", "\x00", "\xff\xfe", "\u00e9", "\U0010ffff",
		strings.Repeat(",", 100000), strings.Repeat("1", 100000), strings.Repeat("3f800000,", 20000), strings.Repeat("\xff", 100000), strings.Repeat("0,", 63) + "0"}
	for _, n := range integers {
		for _, s := range texts {
			twice(t, fmt.Sprintf("integer %d, text of %d bytes", n, len(s)), func() string {
				s := strings.Clone(s)
				x, one := impl.FromBits(n)
				check, two := impl.CheckOf(n, s)
				d, three := impl.ReadDecimal(s)
				list, four := impl.ReadList(s)
				numbers, five := impl.ReadNumbers(s)
				both, six := impl.ReadComplex(s)
				return say(x, one, check, two, d, three, list, four, numbers, five, both, six, impl.IsName(s), impl.Decimal(n))
			})
		}
	}
}

// TestListsAreNotModified calls every function of lists, and looks at their memory, and at what comes behind their ends.
func TestListsAreNotModified(t *testing.T) {
	for _, n := range []int{0, 1, 2, 7, 64, 65, 255, 256, 257, 1000} {
		var numbers []float32
		var both []complex64
		var integers []int64
		for i := range n {
			numbers = append(numbers, float32(i)*0.37-3)
			both = append(both, complex(float32(n-i)*0.91, float32(i)*0.37-3))
			integers = append(integers, int64(50-i))
		}
		first := sayLists(t, numbers, both, integers)
		if again := sayLists(t, numbers, both, integers); again != first {
			t.Errorf("lists of %d: %s, and then %s", n, first, again)
		}
	}
}

func sayLists(t *testing.T, numbers []float32, both []complex64, integers []int64) string {
	t.Helper()
	a, allA := withRoom(numbers, 77)
	b, allB := withRoom(numbers, 78)
	x, allX := withRoom(both, 79)
	y, allY := withRoom(both, complex(0, 80))
	n, allN := withRoom(integers, 81)
	var said string
	say2 := func(value any, ok bool) { said += say(value, ok) }
	sum, ok := impl.SumNumbers(a)
	say2(sum, ok)
	sum, ok = impl.DotNumbers(a, b)
	say2(sum, ok)
	total, ok := impl.SumComplex(x)
	say2(total, ok)
	total, ok = impl.DotComplex(x, y)
	say2(total, ok)
	total, ok = impl.DotConjugate(x, y)
	say2(total, ok)
	sum, ok = impl.PowersOf(x)
	say2(sum, ok)
	text, ok := impl.NumbersText(a)
	say2(text, ok)
	text, ok = impl.ComplexText(x)
	say2(text, ok)
	text, ok = impl.ListText(n)
	say2(text, ok)
	wantA, wantB := append(append([]float32{}, numbers...), 77, 77, 77), append(append([]float32{}, numbers...), 78, 78, 78)
	wantX, wantY := append(append([]complex64{}, both...), 79, 79, 79), append(append([]complex64{}, both...), 80i, 80i, 80i)
	wantN := append(append([]int64{}, integers...), 81, 81, 81)
	for _, both := range [][2]any{{allA, wantA}, {allB, wantB}, {allX, wantX}, {allY, wantY}, {allN, wantN}} {
		if !reflect.DeepEqual(both[0], both[1]) {
			t.Errorf("a list of %d is modified", len(numbers))
		}
	}
	return said
}

// TestListsThatAreReadAreNew writes over a list that was read and reads it again.
func TestListsThatAreReadAreNew(t *testing.T) {
	for range 2 {
		numbers, ok := impl.ReadNumbers("3f800000,c0000000")
		if !ok || !sameNumbers(numbers, []float32{1, -2}) {
			t.Errorf("ReadNumbers: got %v %v", numbers, ok)
		}
		clear(numbers[:cap(numbers)])
		both, ok := impl.ReadComplex("3f80000000000000,00000000c0000000")
		if !ok || !sameComplexes(both, []complex64{1, complex(0, -2)}) {
			t.Errorf("ReadComplex: got %v %v", both, ok)
		}
		clear(both[:cap(both)])
		integers, ok := impl.ReadList("5,-6")
		if !ok || !reflect.DeepEqual(integers, []int64{5, -6}) {
			t.Errorf("ReadList: got %v %v", integers, ok)
		}
		clear(integers[:cap(integers)])
	}
}

// TestNilAndEmptyListsAreOneValue holds what nil lists give against what empty lists give.
func TestNilAndEmptyListsAreOneValue(t *testing.T) {
	if sayLists(t, nil, nil, nil) != sayLists(t, []float32{}, []complex64{}, []int64{}) {
		t.Error("nil lists and empty ones give different results")
	}
}
