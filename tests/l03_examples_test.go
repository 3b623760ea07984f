package tests

import (
	"testing"

	"loop.example/g01403/impl"
)

func TestExamplesOfChapter3(t *testing.T) {
	wantTold(t, []told{
		{"what two turns 1 make", say(impl.TotalsOf(1, 1)), "[0 2] true "},
		{"parts 1 and -1 in 0", squareOf(impl.JoinShare(1, 1, 1, -1, 0)), "1/2"},
		{"parts 1 and -1 in 2", squareOf(impl.JoinShare(1, 1, 1, -1, 2)), "1/2"},
		{"parts -1 and 1 in 0", squareOf(impl.JoinShare(1, -1, 1, 1, 0)), "1/2"},
		{"parts -1 and 1 in 2", squareOf(impl.JoinShare(1, -1, 1, 1, 2)), "1/2"},
		{"ways of shell 1 to take 2", say(impl.CountShell(1, 2)), "15 true "},
		{"terms of shell 1 with 2", say(impl.TermsOf(1, 2)), "[1 2 1 2 0 1 0 0 1] true "},
		{"states of rotors up to 6", say(impl.RotorStates(1, 6)), "9 true "},
	})
}
