package crop_test

import (
	"slices"
	"testing"

	"nochez/api"
	"nochez/crop"
)

// turns is the best plan of the chapter's season.
func turns() [][]int { return plan(list(0), list(1), list(0)) }

func TestExamplePlay(t *testing.T) {
	taken, left, e := crop.Play(two(), turns(), 0)
	if !same(taken, plan(list(8), list(10), list(8))) || !slices.Equal(left, list(6, 8)) || e != api.OK {
		t.Errorf("Play: %v, %v, %v", taken, left, e)
	}
}

func TestExampleWorst(t *testing.T) {
	if n, w, e := crop.Worst(two(), turns()); n != 22 || w != 1 || e != api.OK {
		t.Errorf("Worst: %d, %d, %v", n, w, e)
	}
	if taken, _, e := crop.Play(two(), turns(), 1); !same(taken, plan(list(8), list(7), list(7))) || e != api.OK {
		t.Errorf("Play in weather 1: %v, %v", taken, e)
	}
}

// It is DOC.md's example 4, too: the first, the second and the first again.
func TestExampleBest(t *testing.T) {
	if p, n, e := crop.Best(two()); !same(p, turns()) || n != 22 || e != api.OK {
		t.Errorf("Best: %v, %d, %v", p, n, e)
	}
}

func TestExampleAbove(t *testing.T) {
	if n, e := crop.Above(two(), plan(list(1))); n != 21 || e != api.OK {
		t.Errorf("Above of the list 1: %d, %v", n, e)
	}
	if n, e := crop.Above(two(), plan(list(0), nil)); n != 20 || e != api.OK {
		t.Errorf("Above of the lists 0, none: %d, %v", n, e)
	}
}
