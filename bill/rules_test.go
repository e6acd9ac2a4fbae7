package bill_test

import (
	"math"
	"math/rand/v2"
	"slices"
	"testing"

	"nochez/api"
	"nochez/bill"
)

func TestLimits(t *testing.T) {
	limits := list(api.MaxBillClauses, api.MaxBillPapers, api.MaxBillKind, api.MaxBillParty, api.MaxBillMark, api.MaxBillQuantity, api.MaxBillDay, bill.Any)
	if !slices.Equal(limits, list(6, 10, 9, 9, 9, 1000, 1000, -1)) {
		t.Errorf("other limits: %v", limits)
	}
}

// results has what all calls return for these arguments.
func results(l bill.Letter, papers []int) (all []any) {
	add := func(x ...any) { all = append(all, x...) }
	add(bill.CheckLetter(l), bill.ProvePresent(l, papers, 40))
	is, e := bill.Meets(l, 0, 0)
	add(is, e)
	day, e := bill.Day(l)
	add(day, e)
	sure, may, e := bill.Pays(l)
	add(sure, may, e)
	early, e := bill.Present(l, false)
	add(early, e)
	late, e := bill.Present(l, true)
	add(late, e)
	failing, e := bill.Failing(l)
	add(failing, e)
	critical, e := bill.Critical(l)
	add(critical, e)
	times, e := bill.Times(l)
	add(times, e)
	return all
}

// roomy copies a list to memory with room behind it.
func roomy[T any](l []T) []T { return append(make([]T, 0, len(l)+5), l...) }

// whole returns all memory of a list, up to its capacity.
func whole[T any](l []T) []T { return l[:cap(l)] }

// listsOf has the lists of results.
func listsOf(all []any) (l [][]int) {
	for _, x := range all {
		if y, is := x.([]int); is {
			l = append(l, y)
		}
	}
	return l
}

// spoil writes into all memory of lists.
func spoil(l []int) {
	for i := range whole(l) {
		whole(l)[i] = -77
	}
}

// proposed returns a presentation, if there is one, or some papers.
func proposed(r *rand.Rand, l bill.Letter) []int {
	if all := presentations(l); len(all) > 0 {
		return slices.Clone(all[r.IntN(len(all))])
	}
	return r.Perm(len(l.Clauses))
}

// R4: nothing that is written into a result changes another one, or an argument; arguments are not written to, nor is the memory behind them.
func TestMemory(t *testing.T) {
	lengths := 0
	some(41, 200, func(r *rand.Rand, _ size, l bill.Letter) {
		papers := roomy(proposed(r, l))
		l.Clauses, l.Papers = roomy(l.Clauses), roomy(l.Papers)
		arguments := func() string { return text(l, whole(l.Clauses), whole(l.Papers), whole(papers)) }
		before := arguments()
		all := listsOf(results(l, papers))
		for i, y := range all {
			others := text(all[i+1:])
			spoil(y)
			if text(all[i+1:]) != others {
				t.Fatalf("%v: writing into list %d changes another one", l, i)
			}
			lengths += len(y)
		}
		if arguments() != before {
			t.Fatalf("%v: an argument has been written to", l)
		}
	})
	if lengths < 2000 {
		t.Errorf("only %d numbers in lists of results", lengths)
	}
}

// A call with equal arguments returns equal results, whatever has been called before, and whatever has been written into earlier results.
func TestEqualArguments(t *testing.T) {
	var again []func()
	some(42, 100, func(r *rand.Rand, _ size, l bill.Letter) {
		papers := proposed(r, l)
		first := text(results(l, papers)...)
		again = append(again, func() {
			all := results(clone(l), slices.Clone(papers))
			if two := text(all...); two != first {
				t.Fatalf("%v, %v: %v, and then %v", l, papers, first, two)
			}
			for _, y := range listsOf(all) {
				spoil(y)
			}
		})
	})
	for range 2 {
		for _, call := range again {
			call()
		}
	}
}

// R3
func TestEmpty(t *testing.T) {
	bare := func(clauses []bill.Clause, papers []bill.Paper) bill.Letter {
		return bill.Letter{Clauses: clauses, Papers: papers, Expiry: 40}
	}
	for _, x := range []struct{ one, other bill.Letter }{
		{lading(), lading()},
		{bare(lading().Clauses, nil), bare(lading().Clauses, []bill.Paper{})},
		{bare(nil, lading().Papers), bare([]bill.Clause{}, lading().Papers)},
		{bare(nil, nil), bare([]bill.Clause{}, []bill.Paper{})},
	} {
		if one, other := text(results(x.one, nil)...), text(results(x.other, list())...); one != other {
			t.Errorf("%v: %v; %v: %v", x.one, one, x.other, other)
		}
	}
}

// drawOdd returns a function that draws numbers, small ones above all.
func drawOdd(r *rand.Rand) func() int {
	odd := list(0, 1, 2, 3, -1, 4, 5, 6, 7, 9, 10, 11, 40, 999, 1000, 1001, -2, math.MaxInt, math.MinInt, math.MaxInt-1, math.MinInt+1, math.MaxInt/2)
	return func() int {
		if r.IntN(6) > 0 {
			return odd[r.IntN(4)]
		}
		return odd[r.IntN(len(odd))]
	}
}

// drawAny draws a letter that need not be valid.
func drawAny(r *rand.Rand, number func() int) bill.Letter {
	l := draw(r, small)
	if r.IntN(3) == 0 {
		l.Expiry = number()
	}
	if r.IntN(3) == 0 {
		l.Clauses = nil
		for range r.IntN(8) {
			l.Clauses = append(l.Clauses, clause(number(), number(), number(), number(), number(), number()))
		}
	}
	if r.IntN(3) == 0 {
		l.Papers = nil
		for range r.IntN(12) {
			l.Papers = append(l.Papers, paper(number(), number(), number(), number(), number(), number(), number()))
		}
	}
	return l
}

// P1: each call returns, whatever its arguments are, and each one has the error of a letter that is not valid, and nothing else (R2).
func TestWhateverTheArgumentsAre(t *testing.T) {
	r, valid := chance(43), 0
	number := drawOdd(r)
	for range 20000 {
		l := drawAny(r, number)
		e := bill.CheckLetter(l)
		var papers []int
		for range len(l.Clauses) + r.IntN(2)*(r.IntN(3)-1) {
			papers = append(papers, number())
		}
		if bill.ProvePresent(l, papers, number()) && e != api.OK {
			t.Fatalf("ProvePresent of %v, %v", l, papers)
		}
		if e == api.OK {
			valid++
		}
		for _, a := range ask(l, number(), number()) {
			if e != api.OK && a.e != e || a.e != api.OK && !a.zero {
				t.Fatalf("%v: %v, not %v", l, a, e)
			}
		}
	}
	if valid < 5000 {
		t.Errorf("only %d are valid", valid)
	}
}

// Letters with as much of all as there may be.
func TestWidest(t *testing.T) {
	all := bill.Letter{Clauses: slices.Repeat(clauses(clause(9, 9, 0, 1000, 0, 1000)), 6), Papers: slices.Repeat([]bill.Paper{paper(9, 9, 9, 1000, 1000, 0, 1000)}, 10), Expiry: 1000}
	comes(t, all, to(0, 1000))
	presents(t, all, false, list(0, 1, 2, 3, 4, 5))
	presents(t, all, true, list(0, 1, 2, 3, 4, 5))
	pays(t, all, nil, 1)
	one := with(all, func(l *bill.Letter) { l.Clauses = l.Clauses[:1] })
	pays(t, one, nil, 10)
	fails(t, expires(all, 999), list(0, 1, 2, 3, 4, 5))
	// Each clause but the last one takes any paper, and the last one takes none.
	none := with(all, func(l *bill.Letter) { l.Clauses[5].Party = 8 })
	cannot(t, none)
	fails(t, none, list(5))
	// Each mark has a paper too few.
	few := with(all, func(l *bill.Letter) {
		for i := range l.Papers {
			l.Papers[i].Mark = i % 2
		}
	})
	cannot(t, few)
	fails(t, few, list(0))
	// Each paper has a mark of its own.
	alone := with(all, func(l *bill.Letter) {
		for i := range l.Papers {
			l.Papers[i].Mark = i
		}
	})
	cannot(t, alone)
	fails(t, alone, list(0, 1, 2, 3, 4))
	pays(t, with(alone, func(l *bill.Letter) { l.Clauses = l.Clauses[:1] }), nil, 10)
}
