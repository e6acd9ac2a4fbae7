package sweep_test

import (
	"reflect"
	"slices"
	"testing"

	"nochez/api"
	"nochez/sweep"
)

// known checks what is known of a terrace.
func known(t *testing.T, x sweep.Terrace, plots [][]sweep.Range, whole sweep.Range) {
	t.Helper()
	l, e := sweep.Plots(x)
	w, f := sweep.Whole(x)
	if !reflect.DeepEqual(l, plots) || w != whole || e != api.OK || f != api.OK {
		t.Errorf("Plots, Whole of %v: %v, %v; %v, %v", x, l, e, w, f)
	}
}

// It is DOC.md's example 5, too.
func TestExamplePlots(t *testing.T) {
	known(t, three(first()), rows(row(to(25, 28), to(15, 30), to(15, 30))), to(55, 88))
}

func TestExampleOneMore(t *testing.T) {
	known(t, three(first(), second()), rows(row(to(25, 28), to(15, 18), to(15, 28))), to(55, 74))
}

func TestExampleWeighed(t *testing.T) {
	known(t, weighed(three(first()), 70, 200), rows(row(to(25, 28), to(17, 30), to(17, 30))), to(70, 88))
}

func TestExampleLeave(t *testing.T) {
	if set, e := sweep.Leave(three(first(), second(), third())); !slices.Equal(set, list(0)) || e != api.OK {
		t.Errorf("Leave: %v, %v", set, e)
	}
}

func TestExampleWorst(t *testing.T) {
	if n, w, e := sweep.Worst(three(first()), 0, 1, 0); n != 20 || w != 18 || e != api.OK {
		t.Errorf("Worst of plot 1: %d, %d, %v", n, w, e)
	}
	if n, w, e := sweep.Worst(three(first()), 0, 0, 0); n != 25 || w != 30 || e != api.OK {
		t.Errorf("Worst of plot 0: %d, %d, %v", n, w, e)
	}
	known(t, three(first(), sample(0, 1, 20, 20)), rows(row(to(25, 28), to(20, 20), to(15, 30))), to(60, 78))
	known(t, three(sample(0, 0, 25, 25)), rows(row(to(25, 25), to(15, 30), to(15, 30))), to(55, 85))
}

func TestExampleBest(t *testing.T) {
	if p, k, w, e := sweep.Best(three(first()), 0); p != 0 || k != 1 || w != 18 || e != api.OK {
		t.Errorf("Best: %d, %d, %d, %v", p, k, w, e)
	}
}
