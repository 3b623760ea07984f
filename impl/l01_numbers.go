package impl

import (
	"math"
	"strconv"
	"strings"
)

// Limits of chapter 1.
const (
	MaxNumbers = 256
	MaxValue   = 1000000000000000
	MaxItems   = 64
	CheckSize  = 65003
)

const (
	notANumberBits = 2143289344
	mostBits       = 4294967295
	bitsDigits     = 8
	noneText       = "none"

	// From here on 64-bit numbers have no places behind the point.
	firstCoarse = 1 << 52
)

// A product that is added to something is converted to its own type first:
// the language allows a fused operation otherwise, which is rounded only once.

// SameNumber reports whether two numbers are the same.
func SameNumber(a, b float32) bool { return BitsOf(a) == BitsOf(b) }

// IsFinite reports whether x is finite.
func IsFinite(x float32) bool { return isFiniteWide(float64(x)) }

func isFiniteWide(x float64) bool { return !math.IsNaN(x) && !math.IsInf(x, 0) }

// BitsOf returns the bits of a number.
func BitsOf(x float32) int64 {
	if math.IsNaN(float64(x)) {
		return notANumberBits
	}
	return int64(math.Float32bits(x))
}

// FromBits returns the number with the given bits.
func FromBits(n int64) (float32, bool) {
	if n < 0 || n > mostBits {
		return 0, false
	}
	return math.Float32frombits(uint32(n)), true
}

// NarrowNumber returns the nearest 32-bit number.
func NarrowNumber(x float64) float32 { return float32(x) }

// IsSubnormal reports whether x is subnormal.
func IsSubnormal(x float32) bool {
	const leastNormal = 0x1p-126
	return x != 0 && x < leastNormal && x > -leastNormal
}

// FlushNumber returns x, but a zero if it is subnormal.
func FlushNumber(x float32) float32 {
	if IsSubnormal(x) {
		return float32(math.Copysign(0, float64(x)))
	}
	return x
}

// SameComplex reports whether two complex numbers are the same.
func SameComplex(a, b complex64) bool {
	return SameNumber(real(a), real(b)) && SameNumber(imag(a), imag(b))
}

// IsFiniteComplex reports whether both parts are finite.
func IsFiniteComplex(x complex64) bool { return IsFinite(real(x)) && IsFinite(imag(x)) }

// NarrowComplex returns a number with narrowed parts.
func NarrowComplex(x complex128) complex64 {
	return complex(NarrowNumber(real(x)), NarrowNumber(imag(x)))
}

// MulComplex returns a product.
func MulComplex(x, y complex64) complex64 { return NarrowComplex(wideProduct(x, y)) }

// wideProduct returns the product with parts that are not narrowed.
func wideProduct(x, y complex64) complex128 {
	a, b := float64(real(x)), float64(imag(x))
	c, d := float64(real(y)), float64(imag(y))
	return complex(float64(a*c)-float64(b*d), float64(a*d)+float64(b*c))
}

// ScaleComplex returns a product with a number.
func ScaleComplex(x complex64, by float32) complex64 {
	return complex(float32(real(x)*by), float32(imag(x)*by))
}

// ConjugateOf returns the conjugate.
func ConjugateOf(x complex64) complex64 { return complex(real(x), -imag(x)) }

// PowerOf returns the power.
func PowerOf(x complex64) float32 { return NarrowNumber(widePower(x)) }

// widePower returns the power before it is narrowed.
func widePower(x complex64) float64 {
	a, b := float64(real(x)), float64(imag(x))
	return float64(a*a) + float64(b*b)
}

// LongOf returns the root of the power.
func LongOf(x complex64) float32 { return NarrowNumber(math.Sqrt(widePower(x))) }

// QuotientOf returns a quotient.
func QuotientOf(x, y complex64) complex64 {
	product, power := wideProduct(x, ConjugateOf(y)), widePower(y)
	return NarrowComplex(complex(real(product)/power, imag(product)/power))
}

// PhasorOf returns a point of the unit circle.
func PhasorOf(turns float64) complex64 {
	if !isFiniteWide(turns) {
		return complex(notANumber(), notANumber())
	}
	if math.Abs(turns) >= firstCoarse {
		return 1
	}
	f, quarters := partOfTurn(turns), 0
	for f >= 0.25 {
		f -= 0.25
		quarters++
	}
	c, s := wideSine(0.25-f), wideSine(f)
	// Taken from 0, a zero keeps the sign +; its opposite would not.
	switch quarters {
	case 1:
		return NarrowComplex(complex(0-s, c))
	case 2:
		return NarrowComplex(complex(0-c, 0-s))
	case 3:
		return NarrowComplex(complex(s, 0-c))
	}
	return NarrowComplex(complex(c, s))
}

func notANumber() float32 { return float32(math.NaN()) }

// partOfTurn returns turns without the whole ones, from 0 to 1; it is 1 where rounding leads there.
// Turns are nearer to 0 than firstCoarse.
func partOfTurn(turns float64) float64 {
	// By way of an integer, which has no sign if it is 0, -0 stays -0.
	f := turns - float64(int64(turns))
	if f < 0 {
		f++
	}
	return f
}

// wideSine returns the sine of turns nearer to 0 than firstCoarse.
func wideSine(turns float64) float64 {
	const wholeTurn = 6.283185307179586
	f := partOfTurn(turns)
	below := f >= 0.5
	if below {
		f -= 0.5
	}
	if f > 0.25 {
		f = 0.5 - f
	}
	z := float64(f * wholeTurn)
	u, p := float64(z*z), 1.0
	for k := 8; k >= 1; k-- {
		p = 1 - float64(u*p)/float64(2*k*(2*k+1))
	}
	if below {
		return -float64(z * p)
	}
	return float64(z * p)
}

// SineTurns returns the sine of some turns.
func SineTurns(x float32) float32 {
	if !IsFinite(x) {
		return notANumber()
	}
	turns := float64(x)
	if math.Abs(turns) >= firstCoarse {
		return 0
	}
	return NarrowNumber(wideSine(turns))
}

// AngleOf returns the angle in turns.
func AngleOf(x complex64) float32 { return AngleTurns(imag(x), real(x)) }

// AngleTurns returns the angle of a point.
func AngleTurns(y, x float32) float32 {
	if !IsFinite(y) || !IsFinite(x) {
		return notANumber()
	}
	if y == 0 && x == 0 {
		return 0
	}
	angle := steepAngle(math.Abs(float64(y)), math.Abs(float64(x)))
	if x < 0 {
		angle = 0.5 - angle
	}
	if y < 0 {
		angle = -angle
	}
	return NarrowNumber(angle)
}

// steepAngle returns the angle, up to a quarter of a turn, of a point that is a up and b aside, not both 0.
func steepAngle(a, b float64) float64 {
	if a > b {
		return 0.25 - flatAngle(b/a)
	}
	return flatAngle(a / b)
}

// flatAngle returns the angle, up to an eighth of a turn, whose tangent is t.
func flatAngle(t float64) float64 {
	const wholeTurn = 6.283185307179586
	for range 3 {
		t = t / (1 + math.Sqrt(1+float64(t*t)))
	}
	u, p := float64(t*t), 0.0
	for k := 15; k >= 1; k -= 2 {
		p = 1/float64(k) - float64(u*p)
	}
	return 8 * float64(t*p) / wholeTurn
}

// TenthsOf returns tenths of decibels.
func TenthsOf(power float32) (int64, bool) {
	if !IsFinite(power) || power <= 0 {
		return 0, false
	}
	l := wideLog(float64(power))
	return int64(math.Floor(float64(l*43.42944819032518) + 0.5)), true
}

// wideLog returns the logarithm of a finite number greater than 0.
func wideLog(x float64) float64 {
	const logOfTwo = 0.6931471805599453
	e := 0
	for ; x >= 1.5; e++ {
		x /= 2
	}
	for ; x < 0.75; e-- {
		x *= 2
	}
	s := (x - 1) / (x + 1)
	u, q := float64(s*s), 0.0
	for k := 25; k >= 1; k -= 2 {
		q = 1/float64(k) + float64(u*q)
	}
	return float64(2*float64(s*q)) + float64(float64(e)*logOfTwo)
}

// LogNumber returns the logarithm.
func LogNumber(x float32) float32 {
	switch {
	case x == 0:
		return float32(math.Inf(-1))
	case x < 0 || math.IsNaN(float64(x)):
		return notANumber()
	case !IsFinite(x):
		return x
	}
	return NarrowNumber(wideLog(float64(x)))
}

// RootNumber returns the square root.
func RootNumber(x float32) float32 { return NarrowNumber(math.Sqrt(float64(x))) }

// ExpNumber returns e to a power.
func ExpNumber(x float32) float32 {
	if x > 200 {
		return float32(math.Inf(1))
	}
	if x < -200 {
		return 0
	}
	t, p := float64(x)/256, 1.0
	for k := 12; k >= 1; k-- {
		p = 1 + float64(t*p)/float64(k)
	}
	for range 8 {
		p = float64(p * p)
	}
	return NarrowNumber(p)
}

// SumNumbers returns the sum from left to right.
func SumNumbers(list []float32) (float32, bool) {
	if len(list) > MaxNumbers {
		return 0, false
	}
	sum := float32(0)
	for _, x := range list {
		sum += x
	}
	return sum, true
}

// DotNumbers returns the sum of products.
func DotNumbers(a, b []float32) (float32, bool) {
	if len(a) > MaxNumbers || len(a) != len(b) {
		return 0, false
	}
	sum := float32(0)
	for i, x := range a {
		sum += float32(x * b[i])
	}
	return sum, true
}

// SumComplex returns the sum from left to right.
func SumComplex(list []complex64) (complex64, bool) {
	if len(list) > MaxNumbers {
		return 0, false
	}
	sum := complex64(0)
	for _, x := range list {
		sum = addComplex(sum, x)
	}
	return sum, true
}

func addComplex(x, y complex64) complex64 {
	return complex(real(x)+real(y), imag(x)+imag(y))
}

// DotComplex returns the sum of products.
func DotComplex(a, b []complex64) (complex64, bool) { return sumProducts(a, b, MulComplex) }

// DotConjugate returns the sum of products with conjugates.
func DotConjugate(a, b []complex64) (complex64, bool) {
	return sumProducts(a, b, func(x, y complex64) complex64 { return MulComplex(ConjugateOf(x), y) })
}

// sumProducts returns the sum, from left to right, of the products of the numbers of lists of the same length.
func sumProducts(a, b []complex64, product func(x, y complex64) complex64) (complex64, bool) {
	if len(a) > MaxNumbers || len(a) != len(b) {
		return 0, false
	}
	sum := complex64(0)
	for i, x := range a {
		sum = addComplex(sum, product(x, b[i]))
	}
	return sum, true
}

// PowersOf returns the sum of powers.
func PowersOf(list []complex64) (float32, bool) {
	if len(list) > MaxNumbers {
		return 0, false
	}
	sum := 0.0
	for _, x := range list {
		sum += widePower(x)
	}
	return NarrowNumber(sum), true
}

// NumbersText returns the text of numbers.
func NumbersText(list []float32) (string, bool) { return joinWords(list, MaxNumbers, bitsText) }

// ReadNumbers returns the numbers with the given text.
func ReadNumbers(s string) ([]float32, bool) { return readWords(s, MaxNumbers, readBits) }

// ComplexText returns the text of complex numbers.
func ComplexText(list []complex64) (string, bool) { return joinWords(list, MaxNumbers, bothBitsText) }

// ReadComplex returns the complex numbers with the given text.
func ReadComplex(s string) ([]complex64, bool) { return readWords(s, MaxNumbers, readBothBits) }

// joinWords returns the text of a list of at most so many values, each of which has a word.
func joinWords[T any](list []T, most int, wordOf func(T) string) (string, bool) {
	if len(list) > most {
		return "", false
	}
	if len(list) == 0 {
		return noneText, true
	}
	words := make([]string, len(list))
	for i, x := range list {
		words[i] = wordOf(x)
	}
	return strings.Join(words, ","), true
}

// readWords returns the list of at most so many values whose joinWords s is.
func readWords[T any](s string, most int, read func(string) (T, bool)) ([]T, bool) {
	if s == noneText {
		return nil, true
	}
	if strings.Count(s, ",") >= most {
		return nil, false
	}
	var list []T
	for _, word := range strings.Split(s, ",") {
		x, ok := read(word)
		if !ok {
			return nil, false
		}
		list = append(list, x)
	}
	return list, true
}

func bitsText(x float32) string {
	digits := strconv.FormatInt(BitsOf(x), 16)
	return strings.Repeat("0", bitsDigits-len(digits)) + digits
}

func bothBitsText(x complex64) string { return bitsText(real(x)) + bitsText(imag(x)) }

// readBits returns the number whose bitsText a word is.
func readBits(word string) (float32, bool) {
	if len(word) != bitsDigits {
		return 0, false
	}
	bits := int64(0)
	for _, r := range word {
		digit, ok := hexDigit(r)
		if !ok {
			return 0, false
		}
		bits = 16*bits + digit
	}
	x, ok := FromBits(bits)
	// Many bits are not-a-numbers, but only one of them is the text of one.
	if !ok || BitsOf(x) != bits {
		return 0, false
	}
	return x, true
}

// readBothBits returns the complex number whose parts' bitsText a word is.
func readBothBits(word string) (complex64, bool) {
	if len(word) != 2*bitsDigits {
		return 0, false
	}
	a, first := readBits(word[:bitsDigits])
	b, second := readBits(word[bitsDigits:])
	if !first || !second {
		return 0, false
	}
	return complex(a, b), true
}

func hexDigit(r rune) (int64, bool) {
	switch {
	case r >= '0' && r <= '9':
		return int64(r - '0'), true
	case r >= 'a' && r <= 'f':
		return int64(r-'a') + 10, true
	}
	return 0, false
}

// IsName reports whether s is a name.
func IsName(s string) bool {
	if len(s) < 1 || len(s) > 8 {
		return false
	}
	for _, r := range s {
		if r < 'a' || r > 'z' {
			return false
		}
	}
	return true
}

// Decimal returns n in decimal.
func Decimal(n int64) string { return strconv.FormatInt(n, 10) }

// ReadDecimal returns the number with the given decimal text.
func ReadDecimal(s string) (int64, bool) {
	n, err := strconv.ParseInt(s, 10, 64)
	// Texts such as +1, -0 and 01 are parsed, but are not the Decimal of anything.
	if err != nil || !isValue(n) || Decimal(n) != s {
		return 0, false
	}
	return n, true
}

func isValue(n int64) bool { return n >= -MaxValue && n <= MaxValue }

// ListText returns the text of a list.
func ListText(list []int64) (string, bool) {
	for _, n := range list {
		if !isValue(n) {
			return "", false
		}
	}
	return joinWords(list, MaxItems, Decimal)
}

// ReadList returns the list with the given text.
func ReadList(s string) ([]int64, bool) { return readWords(s, MaxItems, ReadDecimal) }

// CheckOf returns the check number of a text.
func CheckOf(start int64, s string) (int64, bool) {
	if start < 0 || start >= CheckSize {
		return 0, false
	}
	check := start
	for i := range len(s) {
		check = (977*check + int64(s[i]) + 233) % CheckSize
	}
	return check, true
}
