package prey_test

import (
	"fmt"
	"slices"
	"testing"

	"nochez/api"
	"nochez/prey"
)

func four() [][]int { return plan(list(0, 1), list(1, 2), list(2, 3), list(3, 4)) }

func TestExampleMay(t *testing.T) {
	want := plan(list(0, 1, 2, 3, 4), list(2, 3, 4), list(3, 4))
	if l, e := prey.May(row(5), plan(list(0, 1), list(1, 2))); !same(l, want) || e != api.OK {
		t.Errorf("May: %v, %v", l, e)
	}
}

func TestExampleHandsAndClear(t *testing.T) {
	if n, e := prey.Hands(row(5)); n != 2 || e != api.OK {
		t.Errorf("Hands: %d, %v", n, e)
	}
	if l, e := prey.Clear(row(5), 2); !same(l, four()) || e != api.OK {
		t.Errorf("Clear with 2: %v, %v", l, e)
	}
	if l, e := prey.Clear(row(5), 1); len(l) != 0 || e != api.ErrMiss {
		t.Errorf("Clear with 1: %v, %v", l, e)
	}
}

func TestExampleLoss(t *testing.T) {
	if n, path, e := prey.Loss(row(5), four()); n != 20 || !slices.Equal(path, list(4, 4, 4, 4)) || e != api.OK {
		t.Errorf("Loss: %d, %v, %v", n, path, e)
	}
}

func TestExampleBest(t *testing.T) {
	if l, n, e := prey.Best(row(5), 1, 2); !same(l, plan(list(4), nil)) || n != 9 || e != api.OK {
		t.Errorf("Best with 1 hand and 2 weeks: %v, %d, %v", l, n, e)
	}
	if l, n, e := prey.Best(row(5), 2, 1); !same(l, plan(nil)) || n != 5 || e != api.OK {
		t.Errorf("Best with 2 hands and 1 week: %v, %d, %v", l, n, e)
	}
}

// DOC.md's example 3: two hands surely remove the moths in four weeks, one hand never does.
func TestExampleOfTheDocument(t *testing.T) {
	if !prey.ProveClear(row(5), four(), 2) {
		t.Error("two hands do not clear the field")
	}
	seen := map[string]bool{}
	var try func(start []int)
	try = func(start []int) {
		if seen[fmt.Sprint(start)] {
			return
		}
		seen[fmt.Sprint(start)] = true
		for _, week := range weeks(5, 1) {
			l, e := prey.May(on(row(5), start...), plan(week))
			if e != api.OK || len(l[1]) == 0 {
				t.Fatalf("one hand on %v clears %v: %v, %v", week, start, l, e)
			}
			try(l[1])
		}
	}
	try(row(5).Start)
}
