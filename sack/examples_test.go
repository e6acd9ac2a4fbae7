package sack_test

import (
	"fmt"
	"slices"
	"testing"

	"nochez/api"
	"nochez/sack"
)

// same compares lists of lists; nil and a list without elements are the same (R3).
func same(one, other [][]int) bool { return slices.EqualFunc(one, other, slices.Equal) }

// text writes down results, nil like a list without elements.
func text(x ...any) string { return fmt.Sprintf("%v", x) }

// weighs checks the bounds of the weights of all sacks.
func weighs(t *testing.T, r sack.Roads, p sack.Plan, want []sack.Range) {
	t.Helper()
	if l, e := sack.Weights(r, p); !slices.Equal(l, want) || e != api.OK {
		t.Fatalf("Weights of %v, %v: %v, %v, not %v", r, p, l, e, want)
	}
}

// comes checks where and when all sacks come.
func comes(t *testing.T, r sack.Roads, p sack.Plan, places, days []int) {
	t.Helper()
	if l, m, e := sack.Come(r, p); !slices.Equal(l, places) || !slices.Equal(m, days) || e != api.OK {
		t.Fatalf("Come of %v, %v: %v, %v, %v, not %v, %v", r, p, l, m, e, places, days)
	}
}

// fails checks which sacks are late, which trips can be overloaded, and that ProvePlan agrees.
func fails(t *testing.T, r sack.Roads, p sack.Plan, late, over []int) {
	t.Helper()
	if l, e := sack.Late(r, p); !slices.Equal(l, late) || e != api.OK {
		t.Fatalf("Late of %v, %v: %v, %v, not %v", r, p, l, e, late)
	}
	if l, e := sack.Over(r, p); !slices.Equal(l, over) || e != api.OK {
		t.Fatalf("Over of %v, %v: %v, %v, not %v", r, p, l, e, over)
	}
	if sack.ProvePlan(r, p, 1000) != (len(late)+len(over) == 0) {
		t.Fatalf("ProvePlan of %v, %v", r, p)
	}
}

// sends checks the best plan, and that ProvePlan agrees.
func sends(t *testing.T, r sack.Roads, want sack.Plan, days int) {
	t.Helper()
	p, n, e := sack.Best(r)
	if !same(p, want) || n != days || e != api.OK {
		t.Fatalf("Best of %v: %v, %d, %v, not %v, %d", r, p, n, e, want, days)
	}
	if !sack.ProvePlan(r, want, days) || sack.ProvePlan(r, want, days-1) {
		t.Fatalf("ProvePlan of %v, %v, %d", r, want, days)
	}
}

// cannot checks that no plan is right.
func cannot(t *testing.T, r sack.Roads) {
	t.Helper()
	if p, n, e := sack.Best(r); len(p) != 0 || n != 0 || e != api.ErrMiss {
		t.Fatalf("Best of %v: %v, %d, %v", r, p, n, e)
	}
}

// tells checks which sacks finds are that are possible.
func tells(t *testing.T, r sack.Roads, p sack.Plan, l []sack.Find, want [][]int) {
	t.Helper()
	if sacks, e := sack.Identify(r, p, l); !same(sacks, want) || e != api.OK {
		t.Fatalf("Identify of %v, %v, %v: %v, %v, not %v", r, p, l, sacks, e, want)
	}
	if set, e := sack.Odd(r, p, l); len(set) != 0 || e != api.OK {
		t.Fatalf("Odd of %v, %v, %v: %v, %v", r, p, l, set, e)
	}
}

// leaves checks the smallest set of finds that are not possible.
func leaves(t *testing.T, r sack.Roads, p sack.Plan, l []sack.Find, want []int) {
	t.Helper()
	if set, e := sack.Odd(r, p, l); !slices.Equal(set, want) || e != api.OK {
		t.Fatalf("Odd of %v, %v, %v: %v, %v, not %v", r, p, l, set, e, want)
	}
	if sacks, e := sack.Identify(r, p, l); len(sacks) != 0 || e != api.ErrFalse {
		t.Fatalf("Identify of %v, %v, %v: %v, %v", r, p, l, sacks, e)
	}
}

func TestExampleWeights(t *testing.T) { weighs(t, two(), hers(), row(to(93, 109), to(78, 80))) }

func TestExampleCome(t *testing.T) {
	comes(t, two(), hers(), list(2, 2), list(9, 12))
	fails(t, two(), hers(), nil, nil)
}

func TestExampleOver(t *testing.T) {
	both := lists(list(0, 1), list(0, 1))
	fails(t, two(), both, nil, list(1))
	// 189 ounces
	fails(t, with(two(), func(r *sack.Roads) { r.Trips[1].Load = 188 }), both, nil, list(1))
	fails(t, with(two(), func(r *sack.Roads) { r.Trips[1].Load = 189 }), both, nil, nil)
}

// It is DOC.md's example 10, too.
func TestExampleBest(t *testing.T) { sends(t, two(), hers(), 21) }

func TestExampleIdentify(t *testing.T) {
	tells(t, two(), hers(), finds(find(2, 78, 79, 0), find(2, 90, 100, 1)), lists(list(1), list(0)))
}

func TestExampleOdd(t *testing.T) {
	leaves(t, two(), hers(), finds(find(2, 60, 70, 0), find(2, 90, 100, 0), find(2, 95, 95, 0)), list(0, 1))
}
