package dye_test

import (
	"slices"
	"testing"

	"nochez/api"
	"nochez/dye"
)

// strengths checks the bounds of all lots.
func strengths(t *testing.T, w dye.Works, want ...dye.Range) {
	t.Helper()
	if s, e := dye.Strengths(w); !slices.Equal(s, want) || e != api.OK {
		t.Errorf("Strengths of %v: %v, %v, not %v", w, s, e, want)
	}
}

// ranks checks the ranges of the ranks of all lots.
func ranks(t *testing.T, w dye.Works, want ...dye.Range) {
	t.Helper()
	if r, e := dye.Ranks(w); !slices.Equal(r, want) || e != api.OK {
		t.Errorf("Ranks of %v: %v, %v, not %v", w, r, e, want)
	}
}

// differs checks the bounds of a difference, and those of the difference the other way round.
func differs(t *testing.T, w dye.Works, lot, other int, want dye.Range) {
	t.Helper()
	if d, e := dye.Difference(w, lot, other); d != want || e != api.OK {
		t.Errorf("Difference of %v, %d, %d: %v, %v, not %v", w, lot, other, d, e, want)
	}
	if d, e := dye.Difference(w, other, lot); d != to(-want.Hi, -want.Lo) || e != api.OK {
		t.Errorf("Difference of %v, %d, %d: %v, %v, not %v the other way round", w, other, lot, d, e, want)
	}
}

// helps checks the best lot for a further reading, and what it leaves.
func helps(t *testing.T, w dye.Works, err, lot, width int) {
	t.Helper()
	if l, n, e := dye.Help(w, err); l != lot || n != width || e != api.OK {
		t.Errorf("Help of %v with %d: %d, %d, %v, not %d, %d", w, err, l, n, e, lot, width)
	}
}

// leaves checks the smallest set of readings that can be left out.
func leaves(t *testing.T, w dye.Works, want ...int) {
	t.Helper()
	if set, e := dye.Leave(w); !slices.Equal(set, want) || e != api.OK {
		t.Errorf("Leave of %v: %v, %v, not %v", w, set, e, want)
	}
}

func TestExampleStrengths(t *testing.T) {
	strengths(t, three(), to(40, 60), to(50, 80), to(20, 53))
}

func TestExampleDifference(t *testing.T) {
	differs(t, three(), 1, 0, to(10, 20))
	differs(t, three(), 2, 0, to(-23, -7))
}

func TestExampleRanks(t *testing.T) {
	ranks(t, three(), to(1, 1), to(0, 0), to(2, 2))
}

func TestExampleProve(t *testing.T) {
	c, e := dye.Prove(three(), 2, true)
	if c.From != 0 || c.First != 0 || !slices.Equal(c.Links, list(1, 2)) || e != api.OK || !dye.ProveChain(three(), 2, true, 53, c) {
		t.Errorf("Prove: %v, %v", c, e)
	}
}

func TestExampleLeave(t *testing.T) {
	w := three(scale(2, 60, 2))
	leaves(t, w, 0)
	strengths(t, without(w, list(0)), to(65, 83), to(85, 93), to(58, 60))
}

func TestExampleHelp(t *testing.T) {
	helps(t, three(), 2, 1, 28)
	strengths(t, three(scale(1, 65, 2)), to(43, 57), to(63, 67), to(30, 40))
}

// DOC.md's example 8
func TestExampleOfTheDocument(t *testing.T) {
	strengths(t, works(full(2), scale(0, 50, 10), compare(1, 0, 15, 5)), to(40, 60), to(50, 80))
}
