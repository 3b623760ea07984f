package tests

import (
	"testing"

	"loop.example/g01403/impl"
)

const drivenSteps = 4000

func pulseBits(r [4]uint32) []int64 {
	p := pulse(mildPositive(r[0]), mild(r[1]), mild(r[2]), mildPositive(r[3]))
	q := pulse(mildPositive(r[3]), mild(r[2]), mild(r[0]), mildPositive(r[1]))
	state := []complex64{complex(mild(r[1]), mild(r[0])), complex(mild(r[3]), mild(r[2]))}
	list := append(bitsOfAll(impl.PulseTurns(p)), bitsOfAll(impl.SwingShare(p.Rate, p.Off, p.Time))...)
	list = append(list, bitsOfAll(impl.PulseRun([]impl.Pulse{p, q, p}, state))...)
	return append(list, bitsOfAll(impl.VectorOf(state))...)
}

func turnBits(r [4]uint32) []int64 {
	var a, b []complex64
	for i := range r {
		a = append(a, complex(mild(r[i]), mild(r[(i+1)%4]*3)))
		b = append(b, complex(mild(r[i]*5), mild(r[(i+2)%4]*7)))
	}
	list := append(bitsOfAll(impl.JoinTurns(a, b)), bitsOfAll(impl.ActTurns(a, b[:2]))...)
	v, axis := []float32{mild(r[0]), mild(r[1]), mild(r[2])}, []float32{mild(r[3]), mild(r[1] * 9), mild(r[2] * 11)}
	return append(list, bitsOfAll(impl.TurnVector(v, axis, mild(r[0]*13)))...)
}

func dampBits(r [4]uint32) []int64 {
	v := []float32{mild(r[0]), mild(r[1]), mild(r[2])}
	rate, off, one, two := mild(r[3]), mild(r[0]*3), mildPositive(r[1]*3), mildPositive(r[2]*3)
	list := bitsOfAll(impl.DampSteps(v, rate, off, one, two, mildPositive(r[3]*3)/1024, int64(r[0]%9)))
	list = append(list, bitsOfAll(impl.DampRest(rate, off, one, two))...)
	return append(list, bitsOfAll(impl.HeldShare(rate, off, one, two))...)
}

func echoBits(r [4]uint32) []int64 {
	offs, weights := []float32{mild(r[0]), mild(r[1]), mild(r[2])}, []float32{mild(r[3]), mild(r[0] * 3), mild(r[1] * 3)}
	wait, time := mildPositive(r[2]*3), mildPositive(r[3]*3)
	list := append(bitsOfAll(impl.FreeDecay(offs, weights, -time)), bitsOfAll(impl.EchoOf(offs, weights, wait, time))...)
	list = append(list, bitsOfAll(impl.EchoesShared(offs, weights, []float32{wait, time, wait / 2, 1}, 3))...)
	return append(list, bitsOfAll(impl.CrossShare(mildPositive(r[0])/64, mildPositive(r[1])))...)
}

func balanceBits(r [4]uint32) []int64 {
	n := 1 + int(r[0]>>16%6)
	rates, start := repeatNumber(0, n*n), repeatNumber(0, n)
	for i := range rates {
		if i/n != i%n && r[i%4]>>i/4%4 != 0 {
			rates[i] = mildPositive(r[i%4] * uint32(2*i+1))
		}
	}
	for i := range start {
		start[i] = mild(r[3] * uint32(2*i+1))
	}
	list := bitsOfAll(impl.LevelBalance(int64(n), rates))
	list = append(list, bitsOfAll(impl.LevelSteps(int64(n), rates, start, mildPositive(r[1])/4096, int64(r[2]%5)))...)
	return append(list, bitsOfAll(impl.DarkState(mild(r[0]), mild(r[1])))...)
}

func lampBits(r [4]uint32) []int64 {
	pump, loss, gain, spill := mildPositive(r[0]), mildPositive(r[1]), mildPositive(r[2]), mildPositive(r[3])
	list := append(bitsOfAll(impl.PumpLevel(loss, gain)), bitsOfAll(impl.LightOf(pump, loss, gain, spill))...)
	up, light, h := mild(r[0]*3), mild(r[1]*3), mildPositive(r[2]*3)/4096
	return append(list, bitsOfAll(impl.LightSteps(up, light, pump, loss, gain, spill, h, int64(r[3]%7)))...)
}

func ringBits(r [4]uint32) []int64 {
	first, step := mild(r[0]), mildPositive(r[1])
	list := append(bitsOfAll(impl.RingThrough(float32(r[2]>>8)/(1<<24), mild(r[3]))), bitsOfAll(impl.CombPlaces(first, step, 1+int64(r[2]%9)))...)
	return append(list, bitsOfAll(impl.CombNearest(first, step, mild(r[3])))...)
}

// TestWalksOfDrivenLevels holds folded results against those of another program, as TestWalks does.
func TestWalksOfDrivenLevels(t *testing.T) {
	wantWalks(t, drivenSteps, []walkTo{
		{"PulseTurns, SwingShare, PulseRun and VectorOf", 71, pulseBits, 0xe058c124d4a96ffb},
		{"JoinTurns, ActTurns and TurnVector", 72, turnBits, 0x5cef487d361c2f39},
		{"DampSteps, DampRest and HeldShare", 73, dampBits, 0xe3f89fddd940f598},
		{"FreeDecay, EchoOf, EchoesShared and CrossShare", 74, echoBits, 0xb568f98570faf2ee},
		{"LevelBalance, LevelSteps and DarkState", 75, balanceBits, 0xda0ae2509b241b46},
		{"PumpLevel, LightOf and LightSteps", 76, lampBits, 0xf58851c0d30d0ab6},
		{"RingThrough, CombPlaces and CombNearest", 77, ringBits, 0x5c958f9c6385f027},
	})
}
