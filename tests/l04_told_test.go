package tests

import (
	"testing"

	"loop.example/g01403/impl"
)

// The wanted texts are those of another program, in another language, which follows the document's steps.

func pulse(rate, off, turn, time float32) impl.Pulse {
	return impl.Pulse{Rate: rate, Off: off, Turn: turn, Time: time}
}

var (
	stays       = []complex64{complex(1, 0), complex(0, 0), complex(0, 0), complex(1, 0)}
	swaps       = []complex64{complex(0, 0), complex(1, 0), complex(1, 0), complex(0, 0)}
	upTo8       = []complex64{complex(1, 2), complex(3, 4), complex(5, 6), complex(7, 8)}
	uneven      = []complex64{complex(0.5, -1), complex(2, 0.25), complex(-3, 1), complex(0.1, 0.2)}
	minusZeros  = []complex64{complex(minusZero, minusZero), complex(minusZero, minusZero), complex(minusZero, minusZero), complex(minusZero, minusZero)}
	steep       = []complex64{complex(1e+30, 1), complex(1e+30, 1), complex(1e+30, 1), complex(1e+30, 1)}
	flat        = []complex64{complex(1e-30, 100000000), complex(1e-30, 100000000), complex(1e-30, 100000000), complex(1e-30, 100000000)}
	mixed       = []complex64{complex(0.1, 0.3), complex(0.7, -0.2), complex(1.1, 0.9), complex(0.6, 0.4)}
	remixed     = []complex64{complex(0.3, 0.1), complex(0.2, 0.9), complex(-0.4, 0.8), complex(0.5, 0.25)}
	someOffs    = []float32{0.5, -1.25, 3, 0.1}
	someWeights = []float32{1, 2, 0.5, 0.75}
	threeRates  = []float32{0, 1, 2, 3, 0, 4, 5, 6, 0}
	fourRates   = []float32{0, 0.5, 0.1, 0, 1, 0, 0.3, 0.2, 0.7, 0, 0, 2, 0.01, 1.5, 0.25, 0}
	sixRates    = []float32{0, 0.75, 1.5, 0.5, 1.25, 0.25, 1.25, 0, 1, 0, 0.75, 1.5, 0.75, 1.5, 0, 1.25, 0.25, 1, 0.25, 1, 0, 0, 1.5, 0.5, 1.5, 0.5, 1.25, 0.25, 0, 0, 1, 0, 0.75, 1.5, 0.5, 0}
)

func TestSwingsAreTold(t *testing.T) {
	wantTold(t, []told{
		{"SwingShare of 3.1415927, 0, 1", say(impl.SwingShare(3.1415927, 0, 1)), "3f800000 true "},
		{"SwingShare of 1, 0, 0", say(impl.SwingShare(1, 0, 0)), "00000000 true "},
		{"SwingShare of 1, 1, 2", say(impl.SwingShare(1, 1, 2)), "3ef9c647 true "},
		{"SwingShare of 0.3, -0.4, 7.5", say(impl.SwingShare(0.3, -0.4, 7.5)), "3ea7c862 true "},
		{"SwingShare of -2, 0.5, 1.25", say(impl.SwingShare(-2, 0.5, 1.25)), "3f5e3dba true "},
		{"SwingShare of 2, 0.5, 1.25", say(impl.SwingShare(2, 0.5, 1.25)), "3f5e3dba true "},
		{"SwingShare of 0, 3, 5", say(impl.SwingShare(0, 3, 5)), "00000000 true "},
		{"SwingShare of 0, 0, 5", say(impl.SwingShare(0, 0, 5)), "00000000 true "},
		{"SwingShare of minusZero, minusZero, 5", say(impl.SwingShare(minusZero, minusZero, 5)), "00000000 true "},
		{"SwingShare of 0, 0, 0", say(impl.SwingShare(0, 0, 0)), "00000000 true "},
		{"SwingShare of least, -least, 1e+30", say(impl.SwingShare(least, -least, 1e+30)), "00000000 true "},
		{"SwingShare of 1e-25, 1e-25, 1", say(impl.SwingShare(1e-25, 1e-25, 1)), "00000000 true "},
		{"SwingShare of 1e-19, 0, 1e+19", say(impl.SwingShare(1e-19, 0, 1e+19)), "3e6b5d7e true "},
		{"SwingShare of 0.1, 10000000000, 3", say(impl.SwingShare(0.1, 10000000000, 3)), "1a86e5a7 true "},
		{"SwingShare of 1.5, 0, minusZero", say(impl.SwingShare(1.5, 0, minusZero)), "00000000 true "},
		{"SwingShare of 1000000000000000, 1, 1000000000000000", say(impl.SwingShare(1000000000000000, 1, 1000000000000000)), "00000000 true "},
		{"SwingShare of 1, 0, 1e+17", say(impl.SwingShare(1, 0, 1e+17)), "00000000 true "},
		{"SwingShare of 1.3e+19, 1.3e+19, 1e-19", say(impl.SwingShare(1.3e+19, 1.3e+19, 1e-19)), "3ea1db01 true "},
		{"SwingShare of 0, 1.8446743e+19, 1e-19", say(impl.SwingShare(0, 1.8446743e+19, 1e-19)), "00000000 true "},
		{"SwingShare of 5, 12, 0.1", say(impl.SwingShare(5, 12, 0.1)), "3d5deae6 true "},
	})
}

func TestTurnsOfPulsesAreTold(t *testing.T) {
	wantTold(t, []told{
		{"PulseTurns of (0, 0, 0, 0)", say(impl.PulseTurns(pulse(0, 0, 0, 0))), "3f800000+00000000,00000000+80000000,00000000+80000000,3f800000+00000000,true "},
		{"PulseTurns of (3.1415927, 0, 0, 1)", say(impl.PulseTurns(pulse(3.1415927, 0, 0, 1))), "b33bbd2e+00000000,00000000+bf800000,00000000+bf800000,b33bbd2e+00000000,true "},
		{"PulseTurns of (3.1415927, 0, 0.25, 1)", say(impl.PulseTurns(pulse(3.1415927, 0, 0.25, 1))), "b33bbd2e+00000000,bf800000+80000000,3f800000+00000000,b33bbd2e+00000000,true "},
		{"PulseTurns of (3.1415927, 0, 0.5, 0.5)", say(impl.PulseTurns(pulse(3.1415927, 0, 0.5, 0.5))), "3f3504f3+00000000,80000000+3f3504f3,00000000+3f3504f3,3f3504f3+00000000,true "},
		{"PulseTurns of (1, 1, 0.125, 2)", say(impl.PulseTurns(pulse(1, 1, 0.125, 2))), "3e1fafb6+bf32ce03,befcde3a+befcde3a,3efcde3a+befcde3a,3e1fafb6+3f32ce03,true "},
		{"PulseTurns of (1, -1, -0.125, 2)", say(impl.PulseTurns(pulse(1, -1, -0.125, 2))), "3e1fafb6+3f32ce03,3efcde3a+befcde3a,befcde3a+befcde3a,3e1fafb6+bf32ce03,true "},
		{"PulseTurns of (0, 3, 0.3, 1)", say(impl.PulseTurns(pulse(0, 3, 0.3, 1))), "3d90deaa+bf7f5bd5,80000000+00000000,00000000+00000000,3d90deaa+3f7f5bd5,true "},
		{"PulseTurns of (0, -3, 0.3, 1)", say(impl.PulseTurns(pulse(0, -3, 0.3, 1))), "3d90deaa+3f7f5bd5,80000000+00000000,00000000+00000000,3d90deaa+bf7f5bd5,true "},
		{"PulseTurns of (0, 0, 0.3, 1)", say(impl.PulseTurns(pulse(0, 0, 0.3, 1))), "3f800000+00000000,80000000+00000000,00000000+00000000,3f800000+00000000,true "},
		{"PulseTurns of (0, 0, 0.7, 1)", say(impl.PulseTurns(pulse(0, 0, 0.7, 1))), "3f800000+00000000,00000000+00000000,80000000+00000000,3f800000+00000000,true "},
		{"PulseTurns of (minusZero, minusZero, minusZero, minusZero)", say(impl.PulseTurns(pulse(minusZero, minusZero, minusZero, minusZero))), "3f800000+00000000,00000000+80000000,00000000+80000000,3f800000+00000000,true "},
		{"PulseTurns of (2, 0.5, -7.3, 0)", say(impl.PulseTurns(pulse(2, 0.5, -7.3, 0))), "3f800000+00000000,00000000+00000000,80000000+00000000,3f800000+00000000,true "},
		{"PulseTurns of (2, 0.5, 0.1, minusZero)", say(impl.PulseTurns(pulse(2, 0.5, 0.1, minusZero))), "3f800000+00000000,00000000+00000000,80000000+00000000,3f800000+80000000,true "},
		{"PulseTurns of (0.3, -0.4, 10000000000, 7.5)", say(impl.PulseTurns(pulse(0.3, -0.4, 10000000000, 7.5))), "be995c75+3f436593,00000000+bf128c2e,00000000+bf128c2e,be995c75+bf436593,true "},
		{"PulseTurns of (0.3, -0.4, 1e+16, 7.5)", say(impl.PulseTurns(pulse(0.3, -0.4, 1e+16, 7.5))), "be995c75+3f436593,00000000+bf128c2e,00000000+bf128c2e,be995c75+bf436593,true "},
		{"PulseTurns of (1e-30, 1e-30, 0.4, 1e+30)", say(impl.PulseTurns(pulse(1e-30, 1e-30, 0.4, 1e+30))), "3f800000+00000000,80000000+00000000,00000000+00000000,3f800000+00000000,true "},
		{"PulseTurns of (1e-19, 2e-19, 0.9, 3e+19)", say(impl.PulseTurns(pulse(1e-19, 2e-19, 0.9, 3e+19))), "bf7a3dc0+3e412ca3,bd631712+3d9c4805,3d631712+3d9c4805,bf7a3dc0+be412ca3,true "},
		{"PulseTurns of (1000000000000000, 0, 0.2, 1000000000000000)", say(impl.PulseTurns(pulse(1000000000000000, 0, 0.2, 1000000000000000))), "3f800000+00000000,80000000+80000000,00000000+80000000,3f800000+00000000,true "},
		{"PulseTurns of (3, 4, -0.6, 0.2)", say(impl.PulseTurns(pulse(3, 4, -0.6, 0.2))), "3f60a940+bec45f6a,be2d2334+3e6e4da3,3e2d2334+3e6e4da3,3f60a940+3ec45f6a,true "},
		{"PulseTurns of (1e+19, 1e+19, 0.2, 1e-19)", say(impl.PulseTurns(pulse(1e+19, 1e+19, 0.2, 1e-19))), "3f429f65+beeb3195,bedfaeb7+be115b91,3edfaeb7+be115b91,3f429f65+3eeb3195,true "},
		{"PulseTurns of (1, 0, 0, 9.424778)", say(impl.PulseTurns(pulse(1, 0, 0, 9.424778))), "324cde2e+00000000,80000000+3f800000,80000000+3f800000,324cde2e+80000000,true "},
		{"PulseTurns of (12.5, 0.001, 0.99, 0.7)", say(impl.PulseTurns(pulse(12.5, 0.001, 0.99, 0.7))), "bea97c08+389e5044,bd72b09f+3f711731,3d72b09f+3f711731,bea97c08+b89e5044,true "},
	})
}

func TestJoinedTurnsAreTold(t *testing.T) {
	wantTold(t, []told{
		{"JoinTurns of stays, stays", say(impl.JoinTurns(stays, stays)), "3f800000+00000000,00000000+00000000,00000000+00000000,3f800000+00000000,true "},
		{"JoinTurns of upTo8, stays", say(impl.JoinTurns(upTo8, stays)), "3f800000+40000000,40400000+40800000,40a00000+40c00000,40e00000+41000000,true "},
		{"JoinTurns of stays, upTo8", say(impl.JoinTurns(stays, upTo8)), "3f800000+40000000,40400000+40800000,40a00000+40c00000,40e00000+41000000,true "},
		{"JoinTurns of upTo8, uneven", say(impl.JoinTurns(upTo8, uneven)), "41300000+41540000,418c0000+41860000,c0b66666+c059999a,c15e6666+c0d9999a,true "},
		{"JoinTurns of uneven, upTo8", say(impl.JoinTurns(uneven, upTo8)), "c1280000+c1100000,3f800000+40a80000,c1a40000+c1980000,40f33333+41773333,true "},
		{"JoinTurns of swaps, upTo8", say(impl.JoinTurns(swaps, upTo8)), "40400000+40800000,3f800000+40000000,40e00000+41000000,40a00000+40c00000,true "},
		{"JoinTurns of upTo8, swaps", say(impl.JoinTurns(upTo8, swaps)), "40a00000+40c00000,40e00000+41000000,3f800000+40000000,40400000+40800000,true "},
		{"JoinTurns of minusZeros, stays", say(impl.JoinTurns(minusZeros, stays)), "00000000+00000000,00000000+00000000,00000000+00000000,00000000+00000000,true "},
		{"JoinTurns of minusZeros, minusZeros", say(impl.JoinTurns(minusZeros, minusZeros)), "00000000+00000000,00000000+00000000,00000000+00000000,00000000+00000000,true "},
		{"JoinTurns of steep, flat", say(impl.JoinTurns(steep, flat)), "cd3ebc20+7f167699,cd3ebc20+7f167699,cd3ebc20+7f167699,cd3ebc20+7f167699,true "},
		{"JoinTurns of mixed, remixed", say(impl.JoinTurns(mixed, remixed)), "bf170a3d+3fa28f5c,bc23d700+3f2147ae,3d3851f0+3f2f5c29,3da3d70d+3f7d70a4,true "},
		{"ActTurns of stays, {complex(1, 2), complex(3, 4)}", say(impl.ActTurns(stays, []complex64{complex(1, 2), complex(3, 4)})), "3f800000+40000000,40400000+40800000,true "},
		{"ActTurns of swaps, {complex(1, 2), complex(3, 4)}", say(impl.ActTurns(swaps, []complex64{complex(1, 2), complex(3, 4)})), "40400000+40800000,3f800000+40000000,true "},
		{"ActTurns of upTo8, {complex(1, 0), complex(0, 1)}", say(impl.ActTurns(upTo8, []complex64{complex(1, 0), complex(0, 1)})), "c0400000+40a00000,c0400000+41500000,true "},
		{"ActTurns of upTo8, {complex(0.5, -0.25), complex(2, 3)}", say(impl.ActTurns(upTo8, []complex64{complex(0.5, -0.25), complex(2, 3)})), "c0a00000+418e0000,c0c00000+421b0000,true "},
		{"ActTurns of uneven, {complex(0.3, 0.1), complex(0.7, -0.9)}", say(impl.ActTurns(uneven, []complex64{complex(0.3, 0.1), complex(0.7, -0.9)})), "3ff00000+bff00000,bf400000+3d4ccccf,true "},
		{"ActTurns of minusZeros, {complex(1, 1), complex(1, 1)}", say(impl.ActTurns(minusZeros, []complex64{complex(1, 1), complex(1, 1)})), "00000000+00000000,00000000+00000000,true "},
		{"ActTurns of upTo8, {complex(minusZero, 0), complex(0, minusZero)}", say(impl.ActTurns(upTo8, []complex64{complex(minusZero, 0), complex(0, minusZero)})), "00000000+00000000,00000000+00000000,true "},
		{"ActTurns of {complex(1.7e+19, 1e+19), complex(0, 0), complex(0, 0), complex(1, 0)}, {complex(1.7e+19, 0), complex(1, 0)}", say(impl.ActTurns([]complex64{complex(1.7e+19, 1e+19), complex(0, 0), complex(0, 0), complex(1, 0)}, []complex64{complex(1.7e+19, 0), complex(1, 0)})), "7f596b60+7effc99e,3f800000+00000000,true "},
	})
}

func TestRunsOfPulsesAreTold(t *testing.T) {
	wantTold(t, []told{
		{"PulseRun of {(3.1415927, 0, 0, 1)}, {complex(1, 0), complex(0, 0)}", say(impl.PulseRun([]impl.Pulse{pulse(3.1415927, 0, 0, 1)}, []complex64{complex(1, 0), complex(0, 0)})), "b33bbd2e+00000000,00000000+bf800000,true "},
		{"PulseRun of {(3.1415927, 0, 0, 0.5)}, {complex(1, 0), complex(0, 0)}", say(impl.PulseRun([]impl.Pulse{pulse(3.1415927, 0, 0, 0.5)}, []complex64{complex(1, 0), complex(0, 0)})), "3f3504f3+00000000,00000000+bf3504f3,true "},
		{"PulseRun of {(3.1415927, 0, 0, 0.5), (0, 2, 0, 1), (3.1415927, 0, 0, 0.5)}, {complex(1, 0), complex(0, 0)}", say(impl.PulseRun([]impl.Pulse{pulse(3.1415927, 0, 0, 0.5), pulse(0, 2, 0, 1), pulse(3.1415927, 0, 0, 0.5)}, []complex64{complex(1, 0), complex(0, 0)})), "00000000+bf576aa3,00000000+bf0a5140,true "},
		{"PulseRun of {(0, 0, 0, 5)}, {complex(0.6, 0), complex(0, 0.8)}", say(impl.PulseRun([]impl.Pulse{pulse(0, 0, 0, 5)}, []complex64{complex(0.6, 0), complex(0, 0.8)})), "3f19999a+00000000,00000000+3f4ccccd,true "},
		{"PulseRun of {(1, 0.5, 0.1, 2), (2, -0.5, 0.2, 1)}, {complex(0.6, 0), complex(0, 0.8)}", say(impl.PulseRun([]impl.Pulse{pulse(1, 0.5, 0.1, 2), pulse(2, -0.5, 0.2, 1)}, []complex64{complex(0.6, 0), complex(0, 0.8)})), "3f0d1ab1+bde91d32,3edd610b+bf345854,true "},
		{"PulseRun of {(2, -0.5, 0.2, 1), (1, 0.5, 0.1, 2)}, {complex(0.6, 0), complex(0, 0.8)}", say(impl.PulseRun([]impl.Pulse{pulse(2, -0.5, 0.2, 1), pulse(1, 0.5, 0.1, 2)}, []complex64{complex(0.6, 0), complex(0, 0.8)})), "bdec4336+bf77c88c,3db7489f+be51780a,true "},
		{"PulseRun of {(3, 1, 0.25, 0.3), (3, 1, 0.25, 0.3), (3, 1, 0.25, 0.3)}, {complex(1, 0), complex(0, 0)}", say(impl.PulseRun([]impl.Pulse{pulse(3, 1, 0.25, 0.3), pulse(3, 1, 0.25, 0.3), pulse(3, 1, 0.25, 0.3)}, []complex64{complex(1, 0), complex(0, 0)})), "3e16c48c+bea024e2,3f703752+00000000,true "},
		{"PulseRun of {(1, 0, 0.5, 1)}, {complex(3, -4), complex(5, 12)}", say(impl.PulseRun([]impl.Pulse{pulse(1, 0, 0.5, 1)}, []complex64{complex(3, -4), complex(5, 12)})), "c047b3f6+bf8e7d6c,40c9c799+413f821e,true "},
		{"PulseRun of {(1, 0, 0.5, 1)}, {complex(0, 0), complex(0, 0)}", say(impl.PulseRun([]impl.Pulse{pulse(1, 0, 0.5, 1)}, []complex64{complex(0, 0), complex(0, 0)})), "00000000+00000000,00000000+00000000,true "},
		{"PulseRun of {(0, 1, 0, 1)}, {complex(minusZero, 0), complex(0, minusZero)}", say(impl.PulseRun([]impl.Pulse{pulse(0, 1, 0, 1)}, []complex64{complex(minusZero, 0), complex(0, minusZero)})), "00000000+00000000,00000000+00000000,true "},
		{"VectorOf of {complex(1, 0), complex(0, 0)}", say(impl.VectorOf([]complex64{complex(1, 0), complex(0, 0)})), "00000000,00000000,3f800000,true "},
		{"VectorOf of {complex(0, 0), complex(1, 0)}", say(impl.VectorOf([]complex64{complex(0, 0), complex(1, 0)})), "00000000,00000000,bf800000,true "},
		{"VectorOf of {complex(0.70710677, 0), complex(0.70710677, 0)}", say(impl.VectorOf([]complex64{complex(0.70710677, 0), complex(0.70710677, 0)})), "3f7fffff,00000000,00000000,true "},
		{"VectorOf of {complex(0.70710677, 0), complex(0, 0.70710677)}", say(impl.VectorOf([]complex64{complex(0.70710677, 0), complex(0, 0.70710677)})), "00000000,3f7fffff,00000000,true "},
		{"VectorOf of {complex(0.6, 0.1), complex(-0.3, 0.8)}", say(impl.VectorOf([]complex64{complex(0.6, 0.1), complex(-0.3, 0.8)})), "be4cccce,3f828f5d,beb851eb,true "},
		{"VectorOf of {complex(0, 0), complex(0, 0)}", say(impl.VectorOf([]complex64{complex(0, 0), complex(0, 0)})), "00000000,00000000,00000000,true "},
		{"VectorOf of {complex(0, -1), complex(0, 2)}", say(impl.VectorOf([]complex64{complex(0, -1), complex(0, 2)})), "c0800000,00000000,c0400000,true "},
		{"VectorOf of {complex(1e-30, 1), complex(10000000000, 1e-10)}", say(impl.VectorOf([]complex64{complex(1e-30, 1), complex(10000000000, 1e-10)})), "2f5be6ff,d09502f9,e0ad78ec,true "},
		{"VectorOf of {complex(minusZero, 0), complex(0, minusZero)}", say(impl.VectorOf([]complex64{complex(minusZero, 0), complex(0, minusZero)})), "80000000,00000000,00000000,true "},
		{"VectorOf of {complex(1, minusZero), complex(0, 0)}", say(impl.VectorOf([]complex64{complex(1, minusZero), complex(0, 0)})), "00000000,00000000,3f800000,true "},
	})
}

func TestTurnedVectorsAreTold(t *testing.T) {
	wantTold(t, []told{
		{"TurnVector of {1, 0, 0}, {0, 0, 2}, 0.25", say(impl.TurnVector([]float32{1, 0, 0}, []float32{0, 0, 2}, 0.25)), "00000000,3f800000,00000000,true "},
		{"TurnVector of {1, 0, 0}, {0, 0, 2}, -0.25", say(impl.TurnVector([]float32{1, 0, 0}, []float32{0, 0, 2}, -0.25)), "00000000,bf800000,00000000,true "},
		{"TurnVector of {1, 0, 0}, {0, 0, -3}, 0.25", say(impl.TurnVector([]float32{1, 0, 0}, []float32{0, 0, -3}, 0.25)), "00000000,bf800000,00000000,true "},
		{"TurnVector of {0, 1, 0}, {1, 0, 0}, 0.25", say(impl.TurnVector([]float32{0, 1, 0}, []float32{1, 0, 0}, 0.25)), "00000000,00000000,3f800000,true "},
		{"TurnVector of {0, 0, 1}, {0, 1, 0}, 0.25", say(impl.TurnVector([]float32{0, 0, 1}, []float32{0, 1, 0}, 0.25)), "3f800000,00000000,00000000,true "},
		{"TurnVector of {1, 2, 3}, {1, 1, 1}, 0.125", say(impl.TurnVector([]float32{1, 2, 3}, []float32{1, 1, 1}, 0.125)), "3fd9bf00,3f977d0a,404761f9,true "},
		{"TurnVector of {1, 2, 3}, {1, 1, 1}, 1", say(impl.TurnVector([]float32{1, 2, 3}, []float32{1, 1, 1}, 1)), "3f800000,40000000,40400000,true "},
		{"TurnVector of {1, 2, 3}, {1, 1, 1}, 0", say(impl.TurnVector([]float32{1, 2, 3}, []float32{1, 1, 1}, 0)), "3f800000,40000000,40400000,true "},
		{"TurnVector of {0.3, -0.7, 1.9}, {0.2, -1.1, 0.4}, 0.37", say(impl.TurnVector([]float32{0.3, -0.7, 1.9}, []float32{0.2, -1.1, 0.4}, 0.37)), "bf6fc58e,bfe28ef0,bed92b74,true "},
		{"TurnVector of {0.3, -0.7, 1.9}, {0.2, -1.1, 0.4}, -12.37", say(impl.TurnVector([]float32{0.3, -0.7, 1.9}, []float32{0.2, -1.1, 0.4}, -12.37)), "3fa49271,bfb9b26c,bf284e1f,true "},
		{"TurnVector of {0, 0, 0}, {1, 2, 3}, 0.3", say(impl.TurnVector([]float32{0, 0, 0}, []float32{1, 2, 3}, 0.3)), "00000000,00000000,00000000,true "},
		{"TurnVector of {minusZero, minusZero, minusZero}, {1, 0, 0}, 0.5", say(impl.TurnVector([]float32{minusZero, minusZero, minusZero}, []float32{1, 0, 0}, 0.5)), "00000000,00000000,00000000,true "},
		{"TurnVector of {2, 0, 0}, {1, 0, 0}, 0.3", say(impl.TurnVector([]float32{2, 0, 0}, []float32{1, 0, 0}, 0.3)), "40000000,00000000,00000000,true "},
		{"TurnVector of {1, 2, 3}, {0, minusZero, 1e-15}, 0.3", say(impl.TurnVector([]float32{1, 2, 3}, []float32{0, minusZero, 1e-15}, 0.3)), "c00d8328,3eaa81e8,40400000,true "},
		{"TurnVector of {1, 2, 3}, {1e+30, 0, 0}, 0.3", say(impl.TurnVector([]float32{1, 2, 3}, []float32{1e+30, 0, 0}, 0.3)), "be9e377c,bf1e377c,bf6d533a,true "},
		{"TurnVector of {1, 2, 3}, {0, 0, 1e+19}, 1e+17", say(impl.TurnVector([]float32{1, 2, 3}, []float32{0, 0, 1e+19}, 1e+17)), "3f800000,40000000,40400000,true "},
		{"TurnVector of {1, 2, 3}, {least, 0, 1}, 0.2", say(impl.TurnVector([]float32{1, 2, 3}, []float32{least, 0, 1}, 0.2)), "bfcbea93,3fc8d7f5,40400000,true "},
		{"TurnVector of {1e+38, 0, 0}, {0, 1, 0}, 0.125", say(impl.TurnVector([]float32{1e+38, 0, 0}, []float32{0, 1, 0}, 0.125)), "7e54c986,00000000,fe54c986,true "},
		{"TurnVector of {1e-40, 1e-40, 0}, {1, 2, 2}, 0.6", say(impl.TurnVector([]float32{1e-40, 1e-40, 0}, []float32{1, 2, 2}, 0.6)), "000033ce,0000016f,000186ce,true "},
	})
}

func TestDampedStepsAreTold(t *testing.T) {
	wantTold(t, []told{
		{"DampSteps of {1, 0, 0}, 0, 0, 0, 1, 0.5, 2", say(impl.DampSteps([]float32{1, 0, 0}, 0, 0, 0, 1, 0.5, 2)), "3e800000,00000000,00000000,true "},
		{"DampSteps of {0, 0, 1}, 1, 0, 0, 0, 0.125, 3", say(impl.DampSteps([]float32{0, 0, 1}, 1, 0, 0, 0, 0.125, 3)), "00000000,bebf0000,3f740000,true "},
		{"DampSteps of {0, 0, 1}, 1, 0.5, 0.25, 0.125, 0.0625, 20", say(impl.DampSteps([]float32{0, 0, 1}, 1, 0.5, 0.25, 0.125, 0.0625, 20)), "3e98ded5,bf5fddbb,3edcd9d6,true "},
		{"DampSteps of {0.3, -0.7, 0.9}, 0.7, -1.3, 0.1, 0.2, 0.01, 512", say(impl.DampSteps([]float32{0.3, -0.7, 0.9}, 0.7, -1.3, 0.1, 0.2, 0.01, 512)), "bef064e8,bec57729,3f061567,true "},
		{"DampSteps of {0.3, -0.7, 0.9}, 0.7, -1.3, 0.1, 0.2, 0.01, 1", say(impl.DampSteps([]float32{0.3, -0.7, 0.9}, 0.7, -1.3, 0.1, 0.2, 0.01, 1)), "3e94a234,bf3573ea,3f652bd3,true "},
		{"DampSteps of {0.3, -0.7, 0.9}, 0.7, -1.3, 0.1, 0.2, 0.01, 0", say(impl.DampSteps([]float32{0.3, -0.7, 0.9}, 0.7, -1.3, 0.1, 0.2, 0.01, 0)), "3e99999a,bf333333,3f666666,true "},
		{"DampSteps of {minusZero, minusZero, minusZero}, 1, 1, 1, 1, 1, 0", say(impl.DampSteps([]float32{minusZero, minusZero, minusZero}, 1, 1, 1, 1, 1, 0)), "80000000,80000000,80000000,true "},
		{"DampSteps of {minusZero, minusZero, minusZero}, 1, 1, 1, 1, 0, 1", say(impl.DampSteps([]float32{minusZero, minusZero, minusZero}, 1, 1, 1, 1, 0, 1)), "00000000,00000000,00000000,true "},
		{"DampSteps of {minusZero, minusZero, minusZero}, minusZero, minusZero, minusZero, minusZero, minusZero, 2", say(impl.DampSteps([]float32{minusZero, minusZero, minusZero}, minusZero, minusZero, minusZero, minusZero, minusZero, 2)), "80000000,80000000,80000000,true "},
		{"DampSteps of {1, 2, 3}, -1, 0, 0, 0, 0.5, 2", say(impl.DampSteps([]float32{1, 2, 3}, -1, 0, 0, 0, 0.5, 2)), "3f800000,40900000,3e800000,true "},
		{"DampSteps of {1, 2, 3}, 0, -1, 0, 0, 0.5, 2", say(impl.DampSteps([]float32{1, 2, 3}, 0, -1, 0, 0, 0.5, 2)), "40300000,3f000000,40400000,true "},
		{"DampSteps of {1, 2, 3}, 0, 0, 2, 0, 0.5, 2", say(impl.DampSteps([]float32{1, 2, 3}, 0, 0, 2, 0, 0.5, 2)), "3f800000,40000000,3f800000,true "},
		{"DampSteps of {1, 2, 3}, 0, 0, 0, 2, 0.25, 3", say(impl.DampSteps([]float32{1, 2, 3}, 0, 0, 0, 2, 0.25, 3)), "3e000000,3e800000,40400000,true "},
		{"DampSteps of {1e+30, 1, 1}, 1, 1e-20, 0, 0, 1e-05, 5", say(impl.DampSteps([]float32{1e+30, 1, 1}, 1, 1e-20, 0, 0, 1e-05, 5)), "7149f2ca,48f42420,41300034,true "},
		{"DampSteps of {0, 0, 0}, 3, 4, 5, 6, 0.1, 7", say(impl.DampSteps([]float32{0, 0, 0}, 3, 4, 5, 6, 0.1, 7)), "3e4fcbd4,be8ec376,3f5067f9,true "},
	})
}

func TestRestsAreTold(t *testing.T) {
	wantTold(t, []told{
		{"DampRest of 1, 0, 1, 1", say(impl.DampRest(1, 0, 1, 1)), "00000000,bf000000,3f000000,true "},
		{"DampRest of 0, 0, 1, 1", say(impl.DampRest(0, 0, 1, 1)), "00000000,00000000,3f800000,true "},
		{"DampRest of 0, 3, 1, 2", say(impl.DampRest(0, 3, 1, 2)), "00000000,00000000,3f800000,true "},
		{"DampRest of 0.7, -1.3, 0.1, 0.2", say(impl.DampRest(0.7, -1.3, 0.1, 0.2)), "beabed1d,bd5399fd,3f236ca2,true "},
		{"DampRest of -0.7, -1.3, 0.1, 0.2", say(impl.DampRest(-0.7, -1.3, 0.1, 0.2)), "3eabed1d,3d5399fd,3f236ca2,true "},
		{"DampRest of 5, 0.3, 2, 1", say(impl.DampRest(5, 0.3, 2, 1)), "3de20c70,bebc5fb2,3da44310,true "},
		{"DampRest of minusZero, 1, 1, 1", say(impl.DampRest(minusZero, 1, 1, 1)), "00000000,00000000,3f800000,true "},
		{"DampRest of minusZero, minusZero, 1, 1", say(impl.DampRest(minusZero, minusZero, 1, 1)), "00000000,00000000,3f800000,true "},
		{"DampRest of 1e+18, 0, 1, 1", say(impl.DampRest(1e+18, 0, 1, 1)), "00000000,a19392ef,03aa2425,true "},
		{"DampRest of 1e-20, 1000000000000000, 1, 1", say(impl.DampRest(1e-20, 1000000000000000, 1, 1)), "00000000,80000000,3f800000,true "},
		{"DampRest of -1e-20, 1000000000000000, 1, 1", say(impl.DampRest(-1e-20, 1000000000000000, 1, 1)), "00000000,00000000,3f800000,true "},
		{"DampRest of 1, 1, least, greatest", say(impl.DampRest(1, 1, least, greatest)), "00000000,80000001,34fffff6,true "},
		{"DampRest of 100, 0, 0.001, 0.003", say(impl.DampRest(100, 0, 0.001, 0.003)), "00000000,b727c5ac,2fa4ed3f,true "},
		{"DampRest of 1, least, 10000000000, 10000000000", say(impl.DampRest(1, least, 10000000000, 10000000000)), "00000000,aedbe6ff,3f800000,true "},
		{"HeldShare of 0, 0, 1, 1", say(impl.HeldShare(0, 0, 1, 1)), "00000000 true "},
		{"HeldShare of 1, 0, 1, 1", say(impl.HeldShare(1, 0, 1, 1)), "3e800000 true "},
		{"HeldShare of 1, 2, 3, 4", say(impl.HeldShare(1, 2, 3, 4)), "3d000000 true "},
		{"HeldShare of 1e+18, 0, 1, 1", say(impl.HeldShare(1e+18, 0, 1, 1)), "3f000000 true "},
		{"HeldShare of 0.7, -1.3, 0.1, 0.2", say(impl.HeldShare(0.7, -1.3, 0.1, 0.2)), "3e3926bc true "},
		{"HeldShare of -0.7, 1.3, 0.1, 0.2", say(impl.HeldShare(-0.7, 1.3, 0.1, 0.2)), "3e3926bc true "},
		{"HeldShare of 100, 0, 0.001, 0.003", say(impl.HeldShare(100, 0, 0.001, 0.003)), "3f000000 true "},
		{"HeldShare of 0.01, 0, 1, 1", say(impl.HeldShare(0.01, 0, 1, 1)), "3851c000 true "},
		{"HeldShare of 1e-05, 0, 1, 1", say(impl.HeldShare(1e-05, 0, 1, 1)), "00000000 true "},
	})
}

func TestDecaysAndEchoesAreTold(t *testing.T) {
	wantTold(t, []told{
		{"FreeDecay of {0, 0}, {1, 2}, 5", say(impl.FreeDecay([]float32{0, 0}, []float32{1, 2}, 5)), "40400000 true "},
		{"FreeDecay of {1}, {1}, 100", say(impl.FreeDecay([]float32{1}, []float32{1}, 100)), "3f800000 true "},
		{"FreeDecay of {1}, {-3}, 0.3", say(impl.FreeDecay([]float32{1}, []float32{-3}, 0.3)), "40400000 true "},
		{"FreeDecay of {0}, {minusZero}, 1", say(impl.FreeDecay([]float32{0}, []float32{minusZero}, 1)), "00000000 true "},
		{"FreeDecay of someOffs, someWeights, 0", say(impl.FreeDecay(someOffs, someWeights, 0)), "40880000 true "},
		{"FreeDecay of someOffs, someWeights, 0.7", say(impl.FreeDecay(someOffs, someWeights, 0.7)), "4033b414 true "},
		{"FreeDecay of someOffs, someWeights, -0.7", say(impl.FreeDecay(someOffs, someWeights, -0.7)), "4033b414 true "},
		{"FreeDecay of someOffs, someWeights, 12.5", say(impl.FreeDecay(someOffs, someWeights, 12.5)), "3efc35d5 true "},
		{"FreeDecay of someOffs, someWeights, 1e+17", say(impl.FreeDecay(someOffs, someWeights, 1e+17)), "40880000 true "},
		{"FreeDecay of {1e+19}, {1}, 1e+19", say(impl.FreeDecay([]float32{1e+19}, []float32{1}, 1e+19)), "3f800000 true "},
		{"FreeDecay of {1, -1}, {1, 1}, 1.57079635", say(impl.FreeDecay([]float32{1, -1}, []float32{1, 1}, 1.57079635)), "33bbbd2e true "},
		{"FreeDecay of {1, -1}, {1, -1}, 1", say(impl.FreeDecay([]float32{1, -1}, []float32{1, -1}, 1)), "3fd76aa4 true "},
		{"FreeDecay of {-1, -0.875, -0.75, -0.625, -0.5, -0.375, -0.25, -0.125, 0}, {1, 1, 1, 1, 1, 1, 1, 1, 1}, 1.5", say(impl.FreeDecay([]float32{-1, -0.875, -0.75, -0.625, -0.5, -0.375, -0.25, -0.125, 0}, []float32{1, 1, 1, 1, 1, 1, 1, 1, 1}, 1.5)), "40ff65e6 true "},
		{"FreeDecay of {3, 4}, {3e+20, 4e+20}, 0.25", say(impl.FreeDecay([]float32{3, 4}, []float32{3e+20, 4e+20}, 0.25)), "6216a0d6 true "},
		{"FreeDecay of {0.1}, {least}, 1", say(impl.FreeDecay([]float32{0.1}, []float32{least}, 1)), "00000001 true "},
		{"EchoOf of {1, 3}, {1, 1}, 2, 2", say(impl.EchoOf([]float32{1, 3}, []float32{1, 1}, 2, 2)), "40000000 true "},
		{"EchoOf of someOffs, someWeights, 0.7, 0.7", say(impl.EchoOf(someOffs, someWeights, 0.7, 0.7)), "40880000 true "},
		{"EchoOf of someOffs, someWeights, 0.7, 0", say(impl.EchoOf(someOffs, someWeights, 0.7, 0)), "4033b414 true "},
		{"EchoOf of someOffs, someWeights, 0.7, 1.4", say(impl.EchoOf(someOffs, someWeights, 0.7, 1.4)), "4033b414 true "},
		{"EchoOf of someOffs, someWeights, 0, 0.7", say(impl.EchoOf(someOffs, someWeights, 0, 0.7)), "4033b414 true "},
		{"EchoOf of someOffs, someWeights, 1, 0.25", say(impl.EchoOf(someOffs, someWeights, 1, 0.25)), "402aedbc true "},
		{"EchoOf of someOffs, someWeights, minusZero, minusZero", say(impl.EchoOf(someOffs, someWeights, minusZero, minusZero)), "40880000 true "},
		{"EchoOf of someOffs, someWeights, greatest, greatest", say(impl.EchoOf(someOffs, someWeights, greatest, greatest)), "40880000 true "},
		{"EchoOf of someOffs, someWeights, 1e-10, 1e-10", say(impl.EchoOf(someOffs, someWeights, 1e-10, 1e-10)), "40880000 true "},
		{"EchoOf of {2}, {5}, 3, 1", say(impl.EchoOf([]float32{2}, []float32{5}, 3, 1)), "40a00000 true "},
		{"EchoOf of someOffs, someWeights, 3.3, 1000000000", say(impl.EchoOf(someOffs, someWeights, 3.3, 1000000000)), "401a2ab5 true "},
		{"EchoesShared of {1, 3}, {1, 1}, {1}, 2", say(impl.EchoesShared([]float32{1, 3}, []float32{1, 1}, []float32{1}, 2)), "40000000,true "},
		{"EchoesShared of someOffs, someWeights, {0, 0.5, 1, 1.5, 2}, 3", say(impl.EchoesShared(someOffs, someWeights, []float32{0, 0.5, 1, 1.5, 2}, 3)), "400afe4d,40596dea,40880000,40596dea,400afe4d,true "},
		{"EchoesShared of {0.5, 2}, {1, 3}, {1, 1, 1, 1, 1}, 8", say(impl.EchoesShared([]float32{0.5, 2}, []float32{1, 3}, []float32{1, 1, 1, 1, 1}, 8)), "40800000,40800000,40800000,40800000,40800000,true "},
		{"EchoesShared of someOffs, someWeights, {0.25, 0.75, 0.999, 1.001}, 1", say(impl.EchoesShared(someOffs, someWeights, []float32{0.25, 0.75, 0.999, 1.001}, 1)), "402aedbc,40806b12,4087fff8,4087fff8,true "},
		{"EchoesShared of {7}, {2}, {minusZero, 3}, 2", say(impl.EchoesShared([]float32{7}, []float32{2}, []float32{minusZero, 3}, 2)), "40000000,40000000,true "},
	})
}

func TestCrossingsAndDarkStatesAreTold(t *testing.T) {
	wantTold(t, []told{
		{"CrossShare of 0, 1", say(impl.CrossShare(0, 1)), "3f800000 true "},
		{"CrossShare of 1, 1", say(impl.CrossShare(1, 1)), "3e54de62 true "},
		{"CrossShare of minusZero, 1", say(impl.CrossShare(minusZero, 1)), "3f800000 true "},
		{"CrossShare of 1, least", say(impl.CrossShare(1, least)), "00000000 true "},
		{"CrossShare of greatest, 1", say(impl.CrossShare(greatest, 1)), "00000000 true "},
		{"CrossShare of greatest, greatest", say(impl.CrossShare(greatest, greatest)), "00000000 true "},
		{"CrossShare of 0.5, 0.25", say(impl.CrossShare(0.5, 0.25)), "3e54de62 true "},
		{"CrossShare of 3, 0.7", say(impl.CrossShare(3, 0.7)), "30e8df6f true "},
		{"CrossShare of 0.1, 12.3", say(impl.CrossShare(0.1, 12.3)), "3f7fac5c true "},
		{"CrossShare of 11.2, 1", say(impl.CrossShare(11.2, 1)), "00000000 true "},
		{"CrossShare of 11.3, 1", say(impl.CrossShare(11.3, 1)), "00000000 true "},
		{"CrossShare of least, least", say(impl.CrossShare(least, least)), "3f800000 true "},
		{"DarkState of 3, 4", say(impl.DarkState(3, 4)), "3f4ccccd,bf19999a,true "},
		{"DarkState of -3, 4", say(impl.DarkState(-3, 4)), "3f4ccccd,3f19999a,true "},
		{"DarkState of 3, -4", say(impl.DarkState(3, -4)), "bf4ccccd,bf19999a,true "},
		{"DarkState of 0, 2", say(impl.DarkState(0, 2)), "3f800000,00000000,true "},
		{"DarkState of 2, 0", say(impl.DarkState(2, 0)), "00000000,bf800000,true "},
		{"DarkState of minusZero, 2", say(impl.DarkState(minusZero, 2)), "3f800000,00000000,true "},
		{"DarkState of 2, minusZero", say(impl.DarkState(2, minusZero)), "80000000,bf800000,true "},
		{"DarkState of 0.1, 0.7", say(impl.DarkState(0.1, 0.7)), "3f7d6d54,be10d0c3,true "},
		{"DarkState of 1e+19, 1e+19", say(impl.DarkState(1e+19, 1e+19)), "3f3504f4,bf3504f4,true "},
		{"DarkState of 1e+20, 1e+20", say(impl.DarkState(1e+20, 1e+20)), "00000000,00000000,true "},
		{"DarkState of 1e-20, 1e-20", say(impl.DarkState(1e-20, 1e-20)), "3f350513,bf350513,true "},
		{"DarkState of 1e-22, 1e-22", say(impl.DarkState(1e-22, 1e-22)), "3f36c5bd,bf36c5bd,true "},
		{"DarkState of 1.5, -0.2", say(impl.DarkState(1.5, -0.2)), "be0755ee,bf7dc11d,true "},
	})
}

func TestBalancesAreTold(t *testing.T) {
	wantTold(t, []told{
		{"LevelBalance of 1, {0}", say(impl.LevelBalance(1, []float32{0})), "3f800000,true "},
		{"LevelBalance of 1, {minusZero}", say(impl.LevelBalance(1, []float32{minusZero})), "3f800000,true "},
		{"LevelBalance of 2, {0, 1, 3, 0}", say(impl.LevelBalance(2, []float32{0, 1, 3, 0})), "3f400000,3e800000,true "},
		{"LevelBalance of 2, {0, 1, 0, 0}", say(impl.LevelBalance(2, []float32{0, 1, 0, 0})), "80000000,3f800000,true "},
		{"LevelBalance of 2, {0, 0, 1, 0}", say(impl.LevelBalance(2, []float32{0, 0, 1, 0})), "3f800000,00000000,true "},
		{"LevelBalance of 2, {minusZero, 1, 3, minusZero}", say(impl.LevelBalance(2, []float32{minusZero, 1, 3, minusZero})), "3f400000,3e800000,true "},
		{"LevelBalance of 2, {0, minusZero, 3, 0}", say(impl.LevelBalance(2, []float32{0, minusZero, 3, 0})), "3f800000,00000000,true "},
		{"LevelBalance of 3, threeRates", say(impl.LevelBalance(3, threeRates)), "3f105725,3e7a8d9d,3e4415c9,true "},
		{"LevelBalance of 3, {0, 1, 0, 0, 0, 1, 1, 0, 0}", say(impl.LevelBalance(3, []float32{0, 1, 0, 0, 0, 1, 1, 0, 0})), "3eaaaaab,3eaaaaab,3eaaaaab,true "},
		{"LevelBalance of 3, {0, 0, 0, 0, 0, 1, 1, 0, 0}", say(impl.LevelBalance(3, []float32{0, 0, 0, 0, 0, 1, 1, 0, 0})), "3f800000,80000000,00000000,true "},
		{"LevelBalance of 3, {0, 0.001, 5, 2, 0, 0, 0, 7, 0}", say(impl.LevelBalance(3, []float32{0, 0.001, 5, 2, 0, 0, 0, 7, 0})), "3e72f448,3f17e073,3e2d89ea,true "},
		{"LevelBalance of 3, {0, 1e+30, 1e-30, 1, 0, 2, 3, 1e+20, 0}", say(impl.LevelBalance(3, []float32{0, 1e+30, 1e-30, 1, 0, 2, 3, 1e+20, 0})), "0da24260,3f800000,1ebce508,true "},
		{"LevelBalance of 4, fourRates", say(impl.LevelBalance(4, fourRates)), "3f0ccdf4,3e925acb,3d7c6919,3dd1f09f,true "},
		{"LevelBalance of 6, sixRates", say(impl.LevelBalance(6, sixRates)), "3e3cf0e2,3e14ac01,3e272bac,3e2db676,3e4db2cd,3e0bce2c,true "},
		{"LevelBalance of 2, {0, least, least, 0}", say(impl.LevelBalance(2, []float32{0, least, least, 0})), "3f000000,3f000000,true "},
		{"LevelBalance of 3, {0, 3e+38, 3e+38, 1, 0, 1, 1, 1, 0}", say(impl.LevelBalance(3, []float32{0, 3e+38, 3e+38, 1, 0, 1, 1, 1, 0})), "00000000,3eaaaaab,3f2aaaab,true "},
		{"LevelBalance of 2, {0, 0.1, 0.1, 0}", say(impl.LevelBalance(2, []float32{0, 0.1, 0.1, 0})), "3f000000,3f000000,true "},
		{"LevelBalance of 2, {0, 0.3, 0.7, 0}", say(impl.LevelBalance(2, []float32{0, 0.3, 0.7, 0})), "3f333333,3e99999a,true "},
		{"LevelBalance of 5, {0, 1, 1, 1, 1, 1, 0, 1, 1, 1, 1, 1, 0, 1, 1, 1, 1, 1, 0, 1, 1, 1, 1, 1, 0}", say(impl.LevelBalance(5, []float32{0, 1, 1, 1, 1, 1, 0, 1, 1, 1, 1, 1, 0, 1, 1, 1, 1, 1, 0, 1, 1, 1, 1, 1, 0})), "3e4ccccc,3e4ccccc,3e4ccccc,3e4ccccd,3e4cccca,true "},
		{"LevelBalance of 3, {0, 2, 2, 2, 0, 2, 2, 2, 0}", say(impl.LevelBalance(3, []float32{0, 2, 2, 2, 0, 2, 2, 2, 0})), "3eaaaaab,3eaaaaab,3eaaaaab,true "},
		{"LevelSteps of 2, {0, 1, 0, 0}, {1, 0}, 0.5, 1", say(impl.LevelSteps(2, []float32{0, 1, 0, 0}, []float32{1, 0}, 0.5, 1)), "3f000000,3f000000,true "},
		{"LevelSteps of 1, {0}, {5}, 1, 3", say(impl.LevelSteps(1, []float32{0}, []float32{5}, 1, 3)), "40a00000,true "},
		{"LevelSteps of 2, {0, 1, 3, 0}, {1, 0}, 0.125, 7", say(impl.LevelSteps(2, []float32{0, 1, 3, 0}, []float32{1, 0}, 0.125, 7)), "3f408000,3e7e0000,true "},
		{"LevelSteps of 3, threeRates, {0.2, 0.3, 0.5}, 0.01, 40", say(impl.LevelSteps(3, threeRates, []float32{0.2, 0.3, 0.5}, 0.01, 40)), "3f0adf72,3e856f27,3e49a3e1,true "},
		{"LevelSteps of 4, fourRates, {1, 0, 0, 0}, 0.0625, 512", say(impl.LevelSteps(4, fourRates, []float32{1, 0, 0, 0}, 0.0625, 512)), "3f0ccdf8,3e925ac5,3d7c690e,3dd1f092,true "},
		{"LevelSteps of 6, sixRates, {1, 2, 3, 4, 5, 6}, 0.01, 3", say(impl.LevelSteps(6, sixRates, []float32{1, 2, 3, 4, 5, 6}, 0.01, 3)), "3fb68596,40053c89,4040279d,4081409a,409b8398,40b2e855,true "},
		{"LevelSteps of 3, threeRates, {-1, 0.5, 7}, 0.1, 2", say(impl.LevelSteps(3, threeRates, []float32{-1, 0.5, 7}, 0.1, 2)), "403f5c28,3f933332,40170a3d,true "},
		{"LevelSteps of 2, {0, 1, 3, 0}, {minusZero, minusZero}, 1, 0", say(impl.LevelSteps(2, []float32{0, 1, 3, 0}, []float32{minusZero, minusZero}, 1, 0)), "80000000,80000000,true "},
		{"LevelSteps of 2, {0, 1, 3, 0}, {minusZero, minusZero}, 0, 3", say(impl.LevelSteps(2, []float32{0, 1, 3, 0}, []float32{minusZero, minusZero}, 0, 3)), "00000000,00000000,true "},
		{"LevelSteps of 2, {0, 0, 0, 0}, {0.3, 0.7}, 2, 5", say(impl.LevelSteps(2, []float32{0, 0, 0, 0}, []float32{0.3, 0.7}, 2, 5)), "3e99999a,3f333333,true "},
		{"LevelSteps of 2, {0, minusZero, 3, minusZero}, {1, 1}, minusZero, 5", say(impl.LevelSteps(2, []float32{0, minusZero, 3, minusZero}, []float32{1, 1}, minusZero, 5)), "3f800000,3f800000,true "},
		{"LevelSteps of 3, threeRates, {1, 2, 3}, 0, 512", say(impl.LevelSteps(3, threeRates, []float32{1, 2, 3}, 0, 512)), "3f800000,40000000,40400000,true "},
	})
}

func TestLampsAreTold(t *testing.T) {
	wantTold(t, []told{
		{"PumpLevel of 1, 2", say(impl.PumpLevel(1, 2)), "3f000000 true "},
		{"PumpLevel of 0.1, 0.3", say(impl.PumpLevel(0.1, 0.3)), "3eaaaaaa true "},
		{"PumpLevel of least, greatest", say(impl.PumpLevel(least, greatest)), "00000000 true "},
		{"PumpLevel of greatest, 1", say(impl.PumpLevel(greatest, 1)), "7f7fffff true "},
		{"PumpLevel of greatest, greatest", say(impl.PumpLevel(greatest, greatest)), "3f800000 true "},
		{"PumpLevel of 7, 0.001", say(impl.PumpLevel(7, 0.001)), "45dabfff true "},
		{"LightOf of 3, 1, 1, 0", say(impl.LightOf(3, 1, 1, 0)), "40000000 true "},
		{"LightOf of 0.5, 1, 1, 0", say(impl.LightOf(0.5, 1, 1, 0)), "00000000 true "},
		{"LightOf of 1, 1, 1, 0", say(impl.LightOf(1, 1, 1, 0)), "00000000 true "},
		{"LightOf of 1, 1, 1, 0.25", say(impl.LightOf(1, 1, 1, 0.25)), "3f000000 true "},
		{"LightOf of 0, 1, 1, 0.25", say(impl.LightOf(0, 1, 1, 0.25)), "00000000 true "},
		{"LightOf of 2.5, 0.3, 0.7, 0.01", say(impl.LightOf(2.5, 0.3, 0.7, 0.01)), "400556e2 true "},
		{"LightOf of 0.2, 0.3, 0.7, 0.01", say(impl.LightOf(0.2, 0.3, 0.7, 0.01)), "3c0a4180 true "},
		{"LightOf of minusZero, 1, 1, minusZero", say(impl.LightOf(minusZero, 1, 1, minusZero)), "00000000 true "},
		{"LightOf of 5, least, greatest, 1e-05", say(impl.LightOf(5, least, greatest, 1e-05)), "40a00015 true "},
		{"LightOf of 10000000000, 1, 1, 10000000000", say(impl.LightOf(10000000000, 1, 1, 10000000000)), "50711b1a true "},
		{"LightOf of 0.1, 1e+18, 1, 3", say(impl.LightOf(0.1, 1e+18, 1, 3)), "00000000 true "},
		{"LightOf of 3, 2, 0.1, 0.001", say(impl.LightOf(3, 2, 0.1, 0.001)), "39390000 true "},
		{"LightSteps of 1, 1, 2, 1, 1, 0, 0.5, 1", say(impl.LightSteps(1, 1, 2, 1, 1, 0, 0.5, 1)), "3f800000 3f800000 true "},
		{"LightSteps of 0, 0, 3, 1, 1, 0.01, 0.125, 50", say(impl.LightSteps(0, 0, 3, 1, 1, 0.01, 0.125, 50)), "3f808602 40004249 true "},
		{"LightSteps of 0, 0, 3, 1, 1, 0, 0.125, 50", say(impl.LightSteps(0, 0, 3, 1, 1, 0, 0.125, 50)), "403fc210 00000000 true "},
		{"LightSteps of 0.3, 0.7, 2.5, 0.3, 0.7, 0.01, 0.05, 512", say(impl.LightSteps(0.3, 0.7, 2.5, 0.3, 0.7, 0.01, 0.05, 512)), "3edb48ca 40dd2500 true "},
		{"LightSteps of 0.3, 0.7, 2.5, 0.3, 0.7, 0.01, 0.05, 0", say(impl.LightSteps(0.3, 0.7, 2.5, 0.3, 0.7, 0.01, 0.05, 0)), "3e99999a 3f333333 true "},
		{"LightSteps of -1, 2, 0, 1, 1, 0, 0.25, 2", say(impl.LightSteps(-1, 2, 0, 1, 1, 0, 0.25, 2)), "be000000 3f300000 true "},
		{"LightSteps of minusZero, minusZero, 0, 1, 1, 0, 0.25, 0", say(impl.LightSteps(minusZero, minusZero, 0, 1, 1, 0, 0.25, 0)), "80000000 80000000 true "},
		{"LightSteps of minusZero, minusZero, minusZero, 1, 1, minusZero, 0.25, 1", say(impl.LightSteps(minusZero, minusZero, minusZero, 1, 1, minusZero, 0.25, 1)), "00000000 00000000 true "},
		{"LightSteps of 1, -2, 0.5, 3, 0.2, 7, 0.1, 4", say(impl.LightSteps(1, -2, 0.5, 3, 0.2, 7, 0.1, 4)), "3f5a22c3 3f995c40 true "},
		{"LightSteps of 2, 3, 5, 7, 11, 13, 0.001, 9", say(impl.LightSteps(2, 3, 5, 7, 11, 13, 0.001, 9)), "3fbb6e1c 406421f1 true "},
	})
}

func TestRingsAndCombsAreTold(t *testing.T) {
	wantTold(t, []told{
		{"RingThrough of 0.5, 0", say(impl.RingThrough(0.5, 0)), "3f800000 true "},
		{"RingThrough of 0.5, 0.5", say(impl.RingThrough(0.5, 0.5)), "3de38e39 true "},
		{"RingThrough of 0.5, 0.25", say(impl.RingThrough(0.5, 0.25)), "3e4ccccd true "},
		{"RingThrough of 0, 0.3", say(impl.RingThrough(0, 0.3)), "3f800000 true "},
		{"RingThrough of minusZero, 0.3", say(impl.RingThrough(minusZero, 0.3)), "3f800000 true "},
		{"RingThrough of 0.9, 0.01", say(impl.RingThrough(0.9, 0.01)), "3f3ce755 true "},
		{"RingThrough of 0.9, -0.01", say(impl.RingThrough(0.9, -0.01)), "3f3ce755 true "},
		{"RingThrough of 0.99999994, 0", say(impl.RingThrough(0.99999994, 0)), "3f800000 true "},
		{"RingThrough of 0.99999994, 0.5", say(impl.RingThrough(0.99999994, 0.5)), "26800000 true "},
		{"RingThrough of 0.3, 1e+17", say(impl.RingThrough(0.3, 1e+17)), "3f800000 true "},
		{"RingThrough of 0.3, 17", say(impl.RingThrough(0.3, 17)), "3f800000 true "},
		{"RingThrough of 0.37, 0.123", say(impl.RingThrough(0.37, 0.123)), "3f275c92 true "},
		{"RingThrough of least, 0.7", say(impl.RingThrough(least, 0.7)), "3f800000 true "},
		{"RingThrough of 0.75, -3.8", say(impl.RingThrough(0.75, -3.8)), "3d68f1c1 true "},
		{"CombPlaces of 1, 2, 3", say(impl.CombPlaces(1, 2, 3)), "3f800000,40400000,40a00000,true "},
		{"CombPlaces of 0.1, 0.3, 7", say(impl.CombPlaces(0.1, 0.3, 7)), "3dcccccd,3ecccccd,3f333334,3f800000,3fa66667,3fcccccd,3ff33334,true "},
		{"CombPlaces of -5, 0.7, 4", say(impl.CombPlaces(-5, 0.7, 4)), "c0a00000,c089999a,c0666666,c039999a,true "},
		{"CombPlaces of minusZero, 1, 1", say(impl.CombPlaces(minusZero, 1, 1)), "00000000,true "},
		{"CombPlaces of minusZero, least, 3", say(impl.CombPlaces(minusZero, least, 3)), "00000000,00000001,00000002,true "},
		{"CombPlaces of 0.5, 0.1, 12", say(impl.CombPlaces(0.5, 0.1, 12)), "3f000000,3f19999a,3f333333,3f4ccccd,3f666666,3f800000,3f8ccccd,3f99999a,3fa66666,3fb33334,3fc00000,3fcccccd,true "},
		{"CombPlaces of -greatest, greatest, 2", say(impl.CombPlaces(-greatest, greatest, 2)), "ff7fffff,00000000,true "},
		{"CombPlaces of 10000000000, 1, 3", say(impl.CombPlaces(10000000000, 1, 3)), "501502f9,501502f9,501502f9,true "},
		{"CombPlaces of 3, 1e-10, 2", say(impl.CombPlaces(3, 1e-10, 2)), "40400000,40400000,true "},
		{"CombNearest of 1, 2, 4.5", say(impl.CombNearest(1, 2, 4.5)), "2 true "},
		{"CombNearest of 1, 2, -0.5", say(impl.CombNearest(1, 2, -0.5)), "-1 true "},
		{"CombNearest of 1, 2, 4", say(impl.CombNearest(1, 2, 4)), "2 true "},
		{"CombNearest of 1, 2, 3.9999998", say(impl.CombNearest(1, 2, 3.9999998)), "1 true "},
		{"CombNearest of 1, 2, 6", say(impl.CombNearest(1, 2, 6)), "3 true "},
		{"CombNearest of 1, 2, 1", say(impl.CombNearest(1, 2, 1)), "0 true "},
		{"CombNearest of 0, 1, -0.5", say(impl.CombNearest(0, 1, -0.5)), "0 true "},
		{"CombNearest of 0, 1, -1.5", say(impl.CombNearest(0, 1, -1.5)), "-1 true "},
		{"CombNearest of 0, 1, 0.49999997", say(impl.CombNearest(0, 1, 0.49999997)), "0 true "},
		{"CombNearest of 0, 1, 0.5", say(impl.CombNearest(0, 1, 0.5)), "1 true "},
		{"CombNearest of 0, 1, 1000000", say(impl.CombNearest(0, 1, 1000000)), "1000000 true "},
		{"CombNearest of 0, 1, 1000000.4", say(impl.CombNearest(0, 1, 1000000.4)), "1000000 true "},
		{"CombNearest of 0, 1, -1000000.5", say(impl.CombNearest(0, 1, -1000000.5)), "-1000000 true "},
		{"CombNearest of 0, 1, -1000000", say(impl.CombNearest(0, 1, -1000000)), "-1000000 true "},
		{"CombNearest of 0.3, 0.1, 0.6", say(impl.CombNearest(0.3, 0.1, 0.6)), "3 true "},
		{"CombNearest of 0.1, 0.7, -12.4", say(impl.CombNearest(0.1, 0.7, -12.4)), "-18 true "},
		{"CombNearest of greatest, greatest, 0", say(impl.CombNearest(greatest, greatest, 0)), "-1 true "},
		{"CombNearest of 0, least, least", say(impl.CombNearest(0, least, least)), "1 true "},
		{"CombNearest of minusZero, 1, minusZero", say(impl.CombNearest(minusZero, 1, minusZero)), "0 true "},
		{"CombNearest of 0, 3, 7", say(impl.CombNearest(0, 3, 7)), "2 true "},
	})
}

func TestPulsesAreTold(t *testing.T) {
	wantTold(t, []told{
		{"ValidPulse of (0, 0, 0, 0)", say(impl.ValidPulse(pulse(0, 0, 0, 0))), "true "},
		{"ValidPulse of (1, -2, -3, 4)", say(impl.ValidPulse(pulse(1, -2, -3, 4))), "true "},
		{"ValidPulse of (minusZero, 0, 0, minusZero)", say(impl.ValidPulse(pulse(minusZero, 0, 0, minusZero))), "true "},
		{"ValidPulse of (greatest, -greatest, -greatest, greatest)", say(impl.ValidPulse(pulse(greatest, -greatest, -greatest, greatest))), "true "},
		{"ValidPulse of (-1, 0, 0, 0)", say(impl.ValidPulse(pulse(-1, 0, 0, 0))), "false "},
		{"ValidPulse of (0, 0, 0, -1)", say(impl.ValidPulse(pulse(0, 0, 0, -1))), "false "},
		{"ValidPulse of (-least, 0, 0, 0)", say(impl.ValidPulse(pulse(-least, 0, 0, 0))), "false "},
		{"ValidPulse of (0, 0, 0, -least)", say(impl.ValidPulse(pulse(0, 0, 0, -least))), "false "},
		{"SamePulse of (1, 2, 3, 4), (1, 2, 3, 4)", say(impl.SamePulse(pulse(1, 2, 3, 4), pulse(1, 2, 3, 4))), "true "},
		{"SamePulse of (1, 2, 3, 4), (9, 2, 3, 4)", say(impl.SamePulse(pulse(1, 2, 3, 4), pulse(9, 2, 3, 4))), "false "},
		{"SamePulse of (1, 2, 3, 4), (1, 9, 3, 4)", say(impl.SamePulse(pulse(1, 2, 3, 4), pulse(1, 9, 3, 4))), "false "},
		{"SamePulse of (1, 2, 3, 4), (1, 2, 9, 4)", say(impl.SamePulse(pulse(1, 2, 3, 4), pulse(1, 2, 9, 4))), "false "},
		{"SamePulse of (1, 2, 3, 4), (1, 2, 3, 9)", say(impl.SamePulse(pulse(1, 2, 3, 4), pulse(1, 2, 3, 9))), "false "},
		{"SamePulse of (0, 0, 0, 0), (minusZero, 0, 0, 0)", say(impl.SamePulse(pulse(0, 0, 0, 0), pulse(minusZero, 0, 0, 0))), "false "},
		{"SamePulse of (0, 0, 0, 0), (0, minusZero, 0, 0)", say(impl.SamePulse(pulse(0, 0, 0, 0), pulse(0, minusZero, 0, 0))), "false "},
		{"SamePulse of (0, 0, 0, 0), (0, 0, minusZero, 0)", say(impl.SamePulse(pulse(0, 0, 0, 0), pulse(0, 0, minusZero, 0))), "false "},
		{"SamePulse of (0, 0, 0, 0), (0, 0, 0, minusZero)", say(impl.SamePulse(pulse(0, 0, 0, 0), pulse(0, 0, 0, minusZero))), "false "},
		{"SamePulse of (-1, 0, 0, 0), (-1, 0, 0, 0)", say(impl.SamePulse(pulse(-1, 0, 0, 0), pulse(-1, 0, 0, 0))), "true "},
		{"SamePulse of (1, 2, 3, 4), (4, 3, 2, 1)", say(impl.SamePulse(pulse(1, 2, 3, 4), pulse(4, 3, 2, 1))), "false "},
	})
}
