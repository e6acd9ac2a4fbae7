package bill_test

import (
	"math"
	"reflect"
	"slices"
	"testing"

	"nochez/api"
	"nochez/bill"
)

type change struct {
	name string
	make func(l *bill.Letter)
	want api.Errno
}

// changes are changes of the letter of the examples, and its error after them.
func changes() []change {
	all := []change{
		{"none", func(l *bill.Letter) {}, api.OK},
		{"nothing", func(l *bill.Letter) { *l = bill.Letter{} }, api.ErrArg},
		{"no clauses", func(l *bill.Letter) { l.Clauses = nil }, api.ErrArg},
		{"1 clause", func(l *bill.Letter) { l.Clauses = l.Clauses[:1] }, api.OK},
		{"6 clauses", func(l *bill.Letter) { l.Clauses = slices.Repeat(l.Clauses, 3) }, api.OK},
		{"7 clauses", func(l *bill.Letter) { l.Clauses = slices.Repeat(l.Clauses[:1], 7) }, api.ErrLimit},
		{"7 wrong clauses", func(l *bill.Letter) { l.Clauses = slices.Repeat([]bill.Clause{{Kind: -1}}, 7) }, api.ErrLimit},
		{"7 clauses, no papers", func(l *bill.Letter) { l.Clauses, l.Papers = make([]bill.Clause, 7), nil }, api.ErrLimit},
		{"7 clauses, a wrong paper", func(l *bill.Letter) { l.Clauses, l.Papers[3].Mark = make([]bill.Clause, 7), 10 }, api.ErrLimit},
		{"7 clauses, a wrong Expiry", func(l *bill.Letter) { l.Clauses, l.Expiry = make([]bill.Clause, 7), -1 }, api.ErrLimit},
		{"no papers", func(l *bill.Letter) { l.Papers = nil }, api.OK},
		{"1 paper", func(l *bill.Letter) { l.Papers = l.Papers[3:] }, api.OK},
		{"10 papers", func(l *bill.Letter) { l.Papers = slices.Repeat(l.Papers[:2], 5) }, api.OK},
		{"11 papers", func(l *bill.Letter) { l.Papers = slices.Repeat(l.Papers[:1], 11) }, api.ErrLimit},
		{"11 wrong papers", func(l *bill.Letter) { l.Papers = slices.Repeat([]bill.Paper{{Party: bill.Any}}, 11) }, api.ErrLimit},
		{"11 papers, no clauses", func(l *bill.Letter) { l.Papers, l.Clauses = make([]bill.Paper, 11), nil }, api.ErrLimit},
		{"11 papers, a wrong clause", func(l *bill.Letter) { l.Papers, l.Clauses[0].Party = make([]bill.Paper, 11), -2 }, api.ErrLimit},
		{"11 papers, a wrong Expiry", func(l *bill.Letter) { l.Papers, l.Expiry = make([]bill.Paper, 11), 1001 }, api.ErrLimit},
		{"no clauses, no papers", func(l *bill.Letter) { l.Clauses, l.Papers = nil, nil }, api.ErrArg},
		{"a clause of zeros", func(l *bill.Letter) { l.Clauses[1] = bill.Clause{} }, api.OK},
		{"a paper of zeros", func(l *bill.Letter) { l.Papers[1] = bill.Paper{} }, api.OK},
		{"a clause for any party", func(l *bill.Letter) { l.Clauses[1].Party = bill.Any }, api.OK},
		{"a paper from any party", func(l *bill.Letter) { l.Papers[1].Party = bill.Any }, api.ErrArg},
	}
	return slices.Concat(all, changesOfNumbers(), changesOfRanges())
}

// changesOfNumbers puts numbers at the ends of what they may be, and out of it.
func changesOfNumbers() (all []change) {
	for _, y := range []struct {
		name      string
		of        func(l *bill.Letter) *int
		low, high int
	}{
		{"Kind of a clause", func(l *bill.Letter) *int { return &l.Clauses[1].Kind }, 0, 9},
		{"Party of a clause", func(l *bill.Letter) *int { return &l.Clauses[0].Party }, -1, 9},
		{"Kind of a paper", func(l *bill.Letter) *int { return &l.Papers[0].Kind }, 0, 9},
		{"Party of a paper", func(l *bill.Letter) *int { return &l.Papers[1].Party }, 0, 9},
		{"Mark", func(l *bill.Letter) *int { return &l.Papers[2].Mark }, 0, 9},
		{"Quantity of a paper", func(l *bill.Letter) *int { return &l.Papers[3].Quantity }, 0, 1000},
		{"Dated of a paper", func(l *bill.Letter) *int { return &l.Papers[3].Dated }, 0, 1000},
		{"Expiry", func(l *bill.Letter) *int { return &l.Expiry }, 0, 1000},
	} {
		set := func(n int, want api.Errno) {
			all = append(all, change{y.name + text(n), func(l *bill.Letter) { *y.of(l) = n }, want})
		}
		set(y.low, api.OK)
		set(y.high, api.OK)
		for _, n := range list(y.low-1, y.high+1, math.MinInt, math.MaxInt) {
			set(n, api.ErrArg)
		}
	}
	return all
}

// changesOfRanges does so with both ends of ranges.
func changesOfRanges() (all []change) {
	for _, y := range []struct {
		name string
		of   func(l *bill.Letter) *bill.Range
	}{
		{"Quantity of a clause", func(l *bill.Letter) *bill.Range { return &l.Clauses[0].Quantity }},
		{"Dated of a clause", func(l *bill.Letter) *bill.Range { return &l.Clauses[1].Dated }},
		{"Arrives", func(l *bill.Letter) *bill.Range { return &l.Papers[2].Arrives }},
	} {
		set := func(r bill.Range, want api.Errno) {
			all = append(all, change{y.name + text(r), func(l *bill.Letter) { *y.of(l) = r }, want})
		}
		for _, r := range row(to(0, 0), to(1000, 1000), to(0, 1000), to(5, 6)) {
			set(r, api.OK)
		}
		for _, r := range row(to(-1, 1000), to(0, 1001), to(-1, -1), to(1001, 1001), to(6, 5), to(1000, 0), to(math.MinInt, math.MaxInt), to(math.MaxInt, math.MinInt)) {
			set(r, api.ErrArg)
		}
	}
	return all
}

// P11.1
func TestCheckLetter(t *testing.T) {
	for _, y := range changes() {
		l := with(lading(), y.make)
		if e := bill.CheckLetter(l); e != y.want {
			t.Errorf("%s: CheckLetter of %v: %v", y.name, l, e)
		}
	}
}

// answer has the error of a call, and whether all its other results are zero values.
type answer struct {
	call string
	e    api.Errno
	zero bool
}

func answerOf(call string, e api.Errno, others ...any) answer {
	a := answer{call, e, true}
	for _, x := range others {
		v := reflect.ValueOf(x)
		a.zero = a.zero && (v.IsZero() || v.Kind() == reflect.Slice && v.Len() == 0)
	}
	return a
}

// ask calls all that has an error.
func ask(l bill.Letter, clause, paper int) []answer {
	is, e1 := bill.Meets(l, clause, paper)
	day, e2 := bill.Day(l)
	sure, may, e3 := bill.Pays(l)
	early, e4 := bill.Present(l, false)
	late, e5 := bill.Present(l, true)
	failing, e6 := bill.Failing(l)
	critical, e7 := bill.Critical(l)
	times, e8 := bill.Times(l)
	return []answer{
		answerOf("Meets", e1, is), answerOf("Day", e2, day), answerOf("Pays", e3, sure, may), answerOf("Present, early", e4, early),
		answerOf("Present, late", e5, late), answerOf("Failing", e6, failing), answerOf("Critical", e7, critical), answerOf("Times", e8, times),
	}
}

// has reports an error unless calls have these errors, and nothing else with them.
func has(t *testing.T, name string, all []answer, want ...api.Errno) {
	t.Helper()
	for i, a := range all {
		if a.e != want[i] || a.e != api.OK && !a.zero {
			t.Errorf("%s: %v, not %v", name, a, want[i])
		}
	}
}

// A wrong letter counts before a clause or a paper that there is not, and before what it cannot do (R1); with an error all else is zero (R2).
func TestErrorsOfLetters(t *testing.T) {
	for _, y := range changes() {
		if y.want == api.OK {
			continue
		}
		l := with(lading(), y.make)
		for _, z := range []struct{ clause, paper int }{{0, 0}, {-1, 0}, {0, -1}, {99, 99}} {
			has(t, y.name, ask(l, z.clause, z.paper), slices.Repeat([]api.Errno{y.want}, 8)...)
		}
		for _, papers := range [][]int{nil, list(0, 1), list(7)} {
			if bill.ProvePresent(l, papers, 1000) {
				t.Errorf("%s: ProvePresent of %v", y.name, papers)
			}
		}
	}
}

// P11.1
func TestErrorsOfMeets(t *testing.T) {
	for _, y := range []struct {
		clause, paper int
		want          api.Errno
	}{
		{0, 0, api.OK}, {1, 3, api.OK}, {-1, 0, api.ErrRange}, {2, 0, api.ErrRange}, {0, -1, api.ErrRange}, {0, 4, api.ErrRange}, {3, 1, api.ErrRange}, {2, 4, api.ErrRange}, {-1, -1, api.ErrRange},
		{math.MaxInt, 0, api.ErrRange}, {math.MinInt, 0, api.ErrRange}, {0, math.MaxInt, api.ErrRange}, {0, math.MinInt, api.ErrRange},
	} {
		is, e := bill.Meets(lading(), y.clause, y.paper)
		if e != y.want || e != api.OK && is {
			t.Errorf("Meets of %d, %d: %v, %v", y.clause, y.paper, is, e)
		}
	}
	empty := with(lading(), func(l *bill.Letter) { l.Papers = nil })
	if is, e := bill.Meets(empty, 0, 0); is || e != api.ErrRange {
		t.Errorf("Meets without papers: %v, %v", is, e)
	}
}

// Day and Present have an error if there is no presentation, Critical if the letter does not surely pay, and nothing else then.
func TestErrorsOfResults(t *testing.T) {
	for _, y := range []struct {
		name          string
		make          func(l *bill.Letter)
		day, critical api.Errno
	}{
		{"it surely pays", func(l *bill.Letter) {}, api.OK, api.OK},
		{"it only may pay", func(l *bill.Letter) { l.Expiry = 39 }, api.OK, api.ErrState},
		{"it cannot pay any more", func(l *bill.Letter) { l.Expiry = 29 }, api.OK, api.ErrState},
		{"no papers", func(l *bill.Letter) { l.Papers = nil }, api.ErrFail, api.ErrState},
		{"a clause is met by nothing", func(l *bill.Letter) { l.Clauses[1].Party = 4 }, api.ErrFail, api.ErrState},
		{"one paper for two clauses", func(l *bill.Letter) { l.Clauses[1] = l.Clauses[0] }, api.ErrFail, api.ErrState},
		{"other marks", func(l *bill.Letter) { l.Papers[0].Mark = 6 }, api.ErrFail, api.ErrState},
	} {
		l := with(lading(), y.make)
		has(t, y.name, ask(l, 0, 0)[1:], y.day, api.OK, y.day, y.day, api.OK, y.critical, api.OK)
	}
}
