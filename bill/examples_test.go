package bill_test

import (
	"fmt"
	"slices"
	"testing"

	"nochez/api"
	"nochez/bill"
)

// text writes down results, nil like a list without elements.
func text(x ...any) string { return fmt.Sprintf("%v", x) }

// meets checks whether a paper meets a clause.
func meets(t *testing.T, l bill.Letter, clause, paper int, want bool) {
	t.Helper()
	if is, e := bill.Meets(l, clause, paper); is != want || e != api.OK {
		t.Fatalf("Meets of %v, %d, %d: %v, %v, not %v", l, clause, paper, is, e, want)
	}
}

// comes checks the bounds of the first day, and whether the letter surely pays, or may pay.
func comes(t *testing.T, l bill.Letter, want bill.Range) {
	t.Helper()
	if day, e := bill.Day(l); day != want || e != api.OK {
		t.Fatalf("Day of %v: %v, %v, not %v", l, day, e, want)
	}
	if sure, may, e := bill.Pays(l); sure != (want.Hi <= l.Expiry) || may != (want.Lo <= l.Expiry) || e != api.OK {
		t.Fatalf("Pays of %v: %v, %v, %v", l, sure, may, e)
	}
}

// presents checks the presentation, and that ProvePresent agrees.
func presents(t *testing.T, l bill.Letter, late bool, want []int) {
	t.Helper()
	papers, e := bill.Present(l, late)
	if !slices.Equal(papers, want) || e != api.OK {
		t.Fatalf("Present of %v, %v: %v, %v, not %v", l, late, papers, e, want)
	}
	_, latest := ends(l)
	if day := dayOf(want, latest); !bill.ProvePresent(l, want, day) || bill.ProvePresent(l, want, day-1) {
		t.Fatalf("ProvePresent of %v, %v, %d", l, want, day)
	}
}

// cannot checks that there is no presentation.
func cannot(t *testing.T, l bill.Letter) {
	t.Helper()
	if day, e := bill.Day(l); day != to(0, 0) || e != api.ErrFail {
		t.Fatalf("Day of %v: %v, %v", l, day, e)
	}
	if sure, may, e := bill.Pays(l); sure || may || e != api.OK {
		t.Fatalf("Pays of %v: %v, %v, %v", l, sure, may, e)
	}
	for _, late := range []bool{false, true} {
		if papers, e := bill.Present(l, late); len(papers) != 0 || e != api.ErrFail {
			t.Fatalf("Present of %v, %v: %v, %v", l, late, papers, e)
		}
	}
}

// pays checks a letter that surely pays: its critical papers, and how many times it can be paid.
func pays(t *testing.T, l bill.Letter, critical []int, times int) {
	t.Helper()
	if set, e := bill.Failing(l); len(set) != 0 || e != api.OK {
		t.Fatalf("Failing of %v: %v, %v", l, set, e)
	}
	if papers, e := bill.Critical(l); !slices.Equal(papers, critical) || e != api.OK {
		t.Fatalf("Critical of %v: %v, %v, not %v", l, papers, e, critical)
	}
	if n, e := bill.Times(l); n != times || e != api.OK {
		t.Fatalf("Times of %v: %d, %v, not %d", l, n, e, times)
	}
}

// fails checks a letter that does not surely pay: its failing clauses.
func fails(t *testing.T, l bill.Letter, failing []int) {
	t.Helper()
	if set, e := bill.Failing(l); !slices.Equal(set, failing) || e != api.OK {
		t.Fatalf("Failing of %v: %v, %v, not %v", l, set, e, failing)
	}
	if papers, e := bill.Critical(l); len(papers) != 0 || e != api.ErrState {
		t.Fatalf("Critical of %v: %v, %v", l, papers, e)
	}
	if n, e := bill.Times(l); n != 0 || e != api.OK {
		t.Fatalf("Times of %v: %d, %v", l, n, e)
	}
}

func TestExampleMeets(t *testing.T) {
	meets(t, lading(), 0, 0, true)
	meets(t, lading(), 0, 3, false)
	meets(t, lading(), 1, 2, true)
}

// It is DOC.md's example 11, too.
func TestExamplePays(t *testing.T) {
	comes(t, lading(), to(30, 40))
	presents(t, lading(), true, list(0, 1))
	pays(t, lading(), list(0, 1), 1)
	if sure, may, e := bill.Pays(lading()); !sure || !may || e != api.OK {
		t.Errorf("Pays: %v, %v, %v", sure, may, e)
	}
}

func TestExampleEarlier(t *testing.T) {
	comes(t, expires(lading(), 39), to(30, 40))
	fails(t, expires(lading(), 39), list(0))
	comes(t, expires(lading(), 25), to(30, 40))
	fails(t, expires(lading(), 25), list(0))
}

func TestExampleNone(t *testing.T) { cannot(t, withoutPaper(lading(), 0)) }

func TestExampleMore(t *testing.T) {
	l := more(lading(), fifth())
	comes(t, l, to(22, 30))
	presents(t, l, true, list(4, 2))
	pays(t, l, nil, 2)
}
