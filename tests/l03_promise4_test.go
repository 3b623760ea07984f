package tests

import (
	"fmt"
	"math"
	"math/big"
	"testing"

	"loop.example/g01403/impl"
)

// wantOne checks that fractions, of uppers and lowers, each times weight, make 1 exactly, and that they are reduced.
func wantOne(t *testing.T, what string, uppers, lowers []int64, weight *big.Rat) {
	t.Helper()
	sum := new(big.Rat)
	for i := range uppers {
		square := big.NewRat(uppers[i], lowers[i])
		if lowers[i] < 1 || square.Num().Int64() != uppers[i] || square.Denom().Int64() != lowers[i] {
			t.Errorf("%s: %d by %d is not reduced", what, uppers[i], lowers[i])
		}
		sum.Add(sum, square.Mul(square, weight))
	}
	if sum.Cmp(big.NewRat(1, 1)) != 0 {
		t.Errorf("%s: %v by %v make %s", what, uppers, lowers, sum)
	}
}

// eachPair calls tell with all pairs of turns, and all of their totals.
func eachPair(tell func(a, b int64, totals []int64)) {
	for a := int64(0); a <= impl.MaxTurn; a++ {
		for b := int64(0); b <= impl.MaxTurn; b++ {
			totals, _ := impl.TotalsOf(a, b)
			tell(a, b, totals)
		}
	}
}

// TestSquaresOfRowsMakeOne is the first part of promise 4, for all parts of a total.
func TestSquaresOfRowsMakeOne(t *testing.T) {
	eachPair(func(a, b int64, totals []int64) {
		for _, c := range totals {
			for z := -c; z <= c; z += 2 {
				what := fmt.Sprintf("JoinRow of %d, %d, %d, %d", a, b, c, z)
				signs, uppers, lowers, ok := impl.JoinRow(a, b, c, z)
				if !ok || len(signs) != len(uppers) || len(lowers) != len(uppers) {
					t.Errorf("%s: got %v %v %v %v", what, signs, uppers, lowers, ok)
					continue
				}
				wantOne(t, what, uppers, lowers, big.NewRat(1, 1))
			}
		}
	})
}

// TestSquaresOfTotalsMakeOne is the same for all totals of two parts.
func TestSquaresOfTotalsMakeOne(t *testing.T) {
	eachPair(func(a, b int64, totals []int64) {
		for x := -a; x <= a; x += 2 {
			for y := -b; y <= b; y += 2 {
				var uppers, lowers []int64
				for _, c := range totals {
					if sign, upper, lower, ok := impl.JoinShare(a, x, b, y, c); ok {
						uppers, lowers = append(uppers, upper), append(lowers, lower)
						wantBool(t, "a sign of 0 for a square of 0", sign == 0, upper == 0)
					}
				}
				wantOne(t, fmt.Sprintf("JoinShare of %d, %d, %d, %d", a, x, b, y), uppers, lowers, big.NewRat(1, 1))
			}
		}
	})
}

// TestRowsStandUpright holds rows of two totals against each other: their signs fit.
func TestRowsStandUpright(t *testing.T) {
	eachPair(func(a, b int64, totals []int64) {
		for i, c := range totals {
			for _, d := range totals[:i] {
				for z := -d; z <= d; z += 2 {
					sum := 0.0
					for x := -a; x <= a; x += 2 {
						first, _ := impl.JoinNumber(a, x, b, z-x, c)
						second, _ := impl.JoinNumber(a, x, b, z-x, d)
						sum += float64(first) * float64(second)
					}
					near(t, fmt.Sprintf("rows of %d, %d, %d and %d, %d", a, b, c, d, z), sum, 0, 1e-6)
				}
			}
		}
	})
}

// TestRowsAreThoseOfShares holds rows and numbers against single shares.
func TestRowsAreThoseOfShares(t *testing.T) {
	eachPair(func(a, b int64, totals []int64) {
		for _, c := range totals {
			for z := -c; z <= c; z += 2 {
				var want [3][]int64
				for x := -a; x <= a; x += 2 {
					sign, upper, lower, ok := impl.JoinShare(a, x, b, z-x, c)
					number, same := impl.JoinNumber(a, x, b, z-x, c)
					wantBool(t, "a number of a share", same, ok)
					if !ok {
						continue
					}
					near(t, "the size of a share", float64(number), float64(sign)*math.Sqrt(float64(upper)/float64(lower)), 1e-6)
					want[0], want[1], want[2] = append(want[0], sign), append(want[1], upper), append(want[2], lower)
				}
				wantTold(t, []told{{"JoinRow", say(impl.JoinRow(a, b, c, z)), say(want[0], want[1], want[2], true)}})
			}
		}
	})
}

// TestSquaresOfSixesMakeOne weighs each total c of a and b, with each total f of a and e: their squares,
// times c + 1 and f + 1, make 1 over all c.
func TestSquaresOfSixesMakeOne(t *testing.T) {
	for n := range int64(4 * 4 * 4 * 4) {
		a, b, d, e := n%4, n/4%4, n/16%4, n/64
		totals, _ := impl.TotalsOf(a, e)
		for _, f := range totals {
			var uppers, lowers []int64
			for c := int64(0); c <= impl.MaxTurn; c++ {
				if _, upper, lower, ok := impl.SixShare(a, b, c, d, e, f); ok {
					weighed := big.NewRat(upper*(c+1), lower)
					uppers, lowers = append(uppers, weighed.Num().Int64()), append(lowers, weighed.Denom().Int64())
				}
			}
			if len(uppers) > 0 {
				wantOne(t, fmt.Sprintf("SixShare of %d, %d, %d, %d, %d", a, b, d, e, f), uppers, lowers, big.NewRat(f+1, 1))
			}
		}
	}
}

// TestSixesAreMadeOfShares makes sixes of four shares each, as numbers: that of joining a and b first, and that of joining b and d first.
func TestSixesAreMadeOfShares(t *testing.T) {
	for n := range int64(4 * 4 * 4 * 4 * 4 * 4) {
		a, b, c, d, e, f := n%4, n/4%4, n/16%4, n/64%4, n/256%4, n/1024
		sign, upper, lower, ok := impl.SixShare(a, b, c, d, e, f)
		if !ok {
			continue
		}
		sum := 0.0
		for x := -a; x <= a; x += 2 {
			for y := -b; y <= b; y += 2 {
				z := e - x - y
				one, _ := impl.JoinNumber(a, x, b, y, c)
				two, _ := impl.JoinNumber(c, x+y, d, z, e)
				three, _ := impl.JoinNumber(b, y, d, z, f)
				four, _ := impl.JoinNumber(a, x, f, y+z, e)
				sum += float64(one) * float64(two) * float64(three) * float64(four)
			}
		}
		if (a+b+d+e)/2%2 != 0 {
			sum = -sum
		}
		want := sum / math.Sqrt(float64((c+1)*(f+1)))
		near(t, fmt.Sprintf("SixShare of %d, %d, %d, %d, %d, %d", a, b, c, d, e, f), float64(sign)*math.Sqrt(float64(upper)/float64(lower)), want, 1e-6)
	}
}

// TestTotalsHaveAllStates counts the states of turns that are joined.
func TestTotalsHaveAllStates(t *testing.T) {
	for n := range int64(7 * 7 * 7 * 7) {
		list := []int64{n % 7, n / 7 % 7, n / 49 % 7, n / 343}
		counts, ok := impl.CountTotals(list)
		states, want, sum := int64(0), int64(1), int64(0)
		for _, turn := range list {
			want, sum = want*(turn+1), sum+turn
		}
		for made, often := range counts {
			states += often * (int64(made) + 1)
		}
		if !ok || states != want || int64(len(counts)) != sum+1 {
			t.Errorf("CountTotals of %v: got %v %v with %d states, want %d", list, counts, ok, states, want)
		}
	}
}

// TestTermsHaveAsManyStatesAsShellsHaveWays is the second part of promise 4.
func TestTermsHaveAsManyStatesAsShellsHaveWays(t *testing.T) {
	for l := int64(0); l <= impl.MaxShell; l++ {
		for n := int64(0); n <= 4*l+2; n++ {
			terms, one := impl.TermsOf(l, n)
			ways, two := impl.CountShell(l, n)
			states := int64(0)
			for i := 0; i+2 < len(terms); i += 3 {
				states += (2*terms[i] + 1) * (terms[i+1] + 1) * terms[i+2]
			}
			if !one || !two || len(terms)%3 != 0 || states != ways || ways != new(big.Int).Binomial(4*l+2, n).Int64() {
				t.Errorf("shell %d with %d: %v has %d states, of %d ways", l, n, terms, states, ways)
			}
			wantTold(t, []told{{"terms of what is not taken", say(impl.TermsOf(l, 4*l+2-n)), say(terms, true)}})
			wantTermsInOrder(t, terms)
		}
	}
}

// wantTermsInOrder checks that the greatest S comes first, and of equal ones the greatest L.
func wantTermsInOrder(t *testing.T, terms []int64) {
	t.Helper()
	for i := 3; i+2 < len(terms); i += 3 {
		if terms[i+1] > terms[i-2] || terms[i+1] == terms[i-2] && terms[i] >= terms[i-3] {
			t.Errorf("terms %v are not in order", terms)
		}
	}
}

// TestSharesOfThreeLinesMakeOne is the third part of promise 4, for the three lines that lead to one part,
// and for the three turns to which lines from one part can lead.
func TestSharesOfThreeLinesMakeOne(t *testing.T) {
	for a := int64(0); a <= impl.MaxTurn; a++ {
		totals, _ := impl.TotalsOf(a, 2)
		for _, b := range totals {
			for y := -b; y <= b; y += 2 {
				var uppers, lowers []int64
				for i, x := range []int64{y + 2, y, y - 2} {
					if up, down, ok := impl.ShareRow(a, x, b); ok {
						uppers, lowers = append(uppers, up[i]), append(lowers, down[i])
					}
				}
				wantOne(t, fmt.Sprintf("lines from %d to %d, %d", a, b, y), uppers, lowers, big.NewRat(1, 1))
			}
		}
		for x := -a; x <= a; x += 2 {
			wantLinesFrom(t, a, x, totals)
		}
	}
}

// wantLinesFrom holds the lines of each kind from a part against 1, over all turns, and all lines to one turn against
// how many more states it has.
func wantLinesFrom(t *testing.T, a, x int64, totals []int64) {
	t.Helper()
	var uppers, lowers [3][]int64
	for _, b := range totals {
		up, down, ok := impl.ShareRow(a, x, b)
		if !ok || len(up) != 3 || len(down) != 3 {
			t.Errorf("ShareRow of %d, %d, %d: got %v %v %v", a, x, b, up, down, ok)
			continue
		}
		wantOne(t, fmt.Sprintf("ShareRow of %d, %d, %d", a, x, b), up, down, big.NewRat(a+1, b+1))
		for i := range uppers {
			uppers[i], lowers[i] = append(uppers[i], up[i]), append(lowers[i], down[i])
		}
	}
	for i := range uppers {
		wantOne(t, fmt.Sprintf("line %d from %d, %d", i, a, x), uppers[i], lowers[i], big.NewRat(1, 1))
	}
}

// TestWeightsMakeOne holds weights against 1, and those of workers against the last ones.
func TestWeightsMakeOne(t *testing.T) {
	for _, b := range []float32{0, 0.01, 0.3, 1, 2, 50, 1000} {
		for _, warm := range []float32{0.01, 0.5, 1, 20, 3000} {
			weights, ok := impl.RotorWeights(b, warm, 40)
			wantBool(t, "RotorWeights", ok, true)
			sum := 0.0
			for _, weight := range weights {
				sum += float64(weight)
			}
			near(t, "the sum of weights", sum, 1, 1e-5)
		}
	}
}
