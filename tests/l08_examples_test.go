package tests

import (
	"testing"

	"loop.example/g01403/impl"
)

func TestExamplesOfChapter8(t *testing.T) {
	d := impl.NewDesk()
	for _, x := range [][2]string{{"height 3f000000", "40000000"}, {"marks 00000000", "none"}, {"ratio 0 4", "40000000"}} {
		after, output, ok := impl.DeskCommand(d, x[0])
		wantText(t, x[0], output, ok, x[1])
		d = after
	}
	end, outputs, ok := impl.RunDesk(impl.NewDesk(), "height 3f000000\nmarks 00000000\nratio 0 4\n")
	wantText(t, "RunDesk", outputs, ok, "40000000\nnone\n40000000\n")
	wantTold(t, []told{{"the desk behind the examples", say(end), say(impl.NewDesk())}})
}
