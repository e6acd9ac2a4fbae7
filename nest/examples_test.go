package nest_test

import (
	"slices"
	"testing"

	"nochez/api"
	"nochez/nest"
)

func TestExampleBounds(t *testing.T) {
	for _, x := range []struct {
		layout []int
		want   []nest.Range
	}{
		{list(no, 0, no, 0, no), []nest.Range{to(10, 20), to(20, 30), to(20, 40), to(20, 30), to(10, 20)}},
		{list(0, 0, no, no, no), []nest.Range{to(40, 50), to(40, 50), to(10, 20), to(0, 0), to(0, 0)}},
	} {
		if b, e := nest.Bounds(row(5, fifty()), x.layout); !slices.Equal(b, x.want) || e != api.OK {
			t.Errorf("Bounds of %v: %v, %v", x.layout, b, e)
		}
	}
}

func TestExampleFaults(t *testing.T) {
	missed, overfull, e := nest.Faults(row(5, fifty()), list(0, 0, no, no, no))
	if !slices.Equal(missed, list(3, 4)) || !slices.Equal(overfull, list(0, 1)) || e != api.OK {
		t.Errorf("Faults: %v, %v, %v", missed, overfull, e)
	}
}

func TestExampleBest(t *testing.T) {
	layout, nests, e := nest.Best(row(5, fifty()))
	if !slices.Equal(layout, list(no, 0, no, no, 0)) || nests != 2 || e != api.OK {
		t.Errorf("Best: %v, %d, %v", layout, nests, e)
	}
}

func TestExampleSpare(t *testing.T) {
	if spare, e := nest.Spare(row(5, fifty()), list(no, 0, 0, 0, no)); !slices.Equal(spare, list(2)) || e != api.OK {
		t.Errorf("Spare: %v, %v", spare, e)
	}
}

func TestExampleApart(t *testing.T) {
	if pads, e := nest.Apart(row(5, fifty())); !slices.Equal(pads, list(0, 3)) || e != api.OK {
		t.Errorf("Apart: %v, %v", pads, e)
	}
}

func TestExampleShow(t *testing.T) {
	if spread, e := nest.Show(row(5, fifty()), list(0, 0, no, no, no)); len(spread) != 0 || e != api.ErrFail {
		t.Errorf("Show: %v, %v", spread, e)
	}
}

// DOC.md's example 1: two nests are enough for five pads in a row; one is not.
func TestExampleOfTheDocument(t *testing.T) {
	g := row(5, fifty())
	if !nest.ProveLayout(g, list(no, 0, no, no, 0), 2) {
		t.Error("two nests are not enough")
	}
	for pad := range g.Pads {
		layout := list(no, no, no, no, no)
		layout[pad] = 0
		if nest.ProveLayout(g, layout, 5) {
			t.Errorf("one nest on %d is enough", pad)
		}
	}
}
