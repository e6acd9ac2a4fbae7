package sieve_test

import (
	"slices"
	"testing"

	"nochez/api"
	"nochez/sieve"
)

// ranges checks the ranges of a lot.
func ranges(t *testing.T, l sieve.Lot, want ...sieve.Range) {
	t.Helper()
	if r, e := sieve.Ranges(l); !slices.Equal(r, want) || e != api.OK {
		t.Errorf("Ranges of %v: %v, %v, not %v", l, r, e, want)
	}
}

// pair checks the pair of a set of tests; it decides if there is nothing to be found.
func pair(t *testing.T, l sieve.Lot, limits, tests, one, two []int) {
	t.Helper()
	want := api.OK
	if one == nil {
		want = api.ErrNone
	}
	if a, b, e := sieve.Pair(l, limits, tests); !slices.Equal(a, one) || !slices.Equal(b, two) || e != want {
		t.Errorf("Pair of %v, %v, %v: %v, %v, %v, not %v, %v", l, limits, tests, a, b, e, one, two)
	}
}

// fewest checks the fewest tests of a lot.
func fewest(t *testing.T, l sieve.Lot, limits, want []int, e api.Errno) {
	t.Helper()
	if set, f := sieve.Tests(l, limits); !slices.Equal(set, want) || f != e {
		t.Errorf("Tests of %v, %v: %v, %v, not %v, %v", l, limits, set, f, want, e)
	}
}

// It is DOC.md's example 7, too: two are dust.
func TestExampleRanges(t *testing.T) {
	ranges(t, lead(kept()), to(0, 8), to(2, 2), to(0, 8))
}

func TestExampleOver(t *testing.T) {
	if over, e := sieve.Over(lead(kept()), limits()); !slices.Equal(over, list(2)) || e != api.OK {
		t.Errorf("Over: %v, %v", over, e)
	}
}

func TestExampleShow(t *testing.T) {
	if m, e := sieve.Show(lead(kept()), 2, true); !slices.Equal(m, list(0, 2, 8)) || e != api.OK {
		t.Errorf("Show, high: %v, %v", m, e)
	}
	if m, e := sieve.Show(lead(kept()), 2, false); !slices.Equal(m, list(8, 2, 0)) || e != api.OK {
		t.Errorf("Show: %v, %v", m, e)
	}
}

func TestExamplePair(t *testing.T) {
	pair(t, lead(kept()), limits(), nil, list(7, 2, 1), list(0, 2, 8))
	pair(t, lead(kept()), limits(), list(0), list(7, 2, 1), list(0, 2, 8))
	pair(t, lead(kept()), limits(), list(1), nil, nil)
}

// It is DOC.md's example 7, too: one test with water decides.
func TestExampleTests(t *testing.T) {
	fewest(t, lead(kept()), limits(), list(1), api.OK)
	fewest(t, tested(lead(kept()), lead().Tests[0]), limits(), nil, api.ErrMiss)
}

func TestExampleLeave(t *testing.T) {
	if set, e := sieve.Leave(lead(kept(), result(0, 900, 1000))); !slices.Equal(set, list(0)) || e != api.OK {
		t.Errorf("Leave: %v, %v", set, e)
	}
}
