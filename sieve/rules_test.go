package sieve_test

import (
	"fmt"
	"math"
	"math/rand/v2"
	"slices"
	"testing"

	"nochez/api"
	"nochez/sieve"
)

func TestLimits(t *testing.T) {
	if api.MaxSieveThings != 4 || api.MaxSieveWhole != 30 || api.MaxSieveTests != 5 || api.MaxSieveResults != 8 || api.MaxSieveKeeps != 100 || api.MaxSieveKept != 3000 {
		t.Error("another limit")
	}
}

// results has what all calls return for these arguments.
func results(x sieve.Lot, y asked, mixture []int) (found []any) {
	add := func(l ...any) { found = append(found, l...) }
	add(sieve.CheckLot(x))
	r, e := sieve.Ranges(x)
	add(r, e)
	low, e := sieve.Show(x, y.thing, false)
	add(low, e)
	high, e := sieve.Show(x, y.thing, true)
	add(high, e)
	over, e := sieve.Over(x, y.limits)
	add(over, e)
	set, e := sieve.Leave(x)
	add(set, e)
	one, two, e := sieve.Pair(x, y.limits, y.tests)
	add(one, two, e)
	tests, e := sieve.Tests(x, y.limits)
	add(tests, e, sieve.ProveMixture(x, mixture))
	return found
}

// equal compares results; nil and a list without elements are the same (R3).
func equal(one, two []any) bool { return fmt.Sprint(one...) == fmt.Sprint(two...) }

// drawAsked draws what a lot can be asked for.
func drawAsked(r *rand.Rand, x sieve.Lot) asked {
	all := sets(len(x.Tests))
	return asked{r.IntN(x.Things), drawLimits(r, x), all[r.IntN(len(all))]}
}

// roomy copies a list to memory with room behind it.
func roomy[T any](l []T) []T { return append(make([]T, 0, len(l)+5), l...) }

// roomyLot copies a lot to such memory.
func roomyLot(x sieve.Lot) sieve.Lot {
	x.Tests, x.Results = roomy(x.Tests), roomy(x.Results)
	for i := range x.Tests {
		x.Tests[i] = roomy(x.Tests[i])
	}
	return x
}

// whole returns all memory of a list, up to its capacity.
func whole[T any](l []T) []T { return l[:cap(l)] }

// memory writes down all memory of arguments.
func memory(x sieve.Lot, y asked, mixture []int) string {
	text := fmt.Sprint(x, y, whole(x.Tests), whole(x.Results), whole(y.limits), whole(y.tests), whole(mixture))
	for _, test := range x.Tests {
		text += fmt.Sprint(whole(test))
	}
	return text
}

// spoil writes into all memory of a list of results.
func spoil(x any) {
	switch l := x.(type) {
	case []int:
		for i := range whole(l) {
			whole(l)[i] = -77
		}
	case []sieve.Range:
		for i := range whole(l) {
			whole(l)[i] = to(-77, -77)
		}
	}
}

// R4: nothing that is written into a result changes another one, or an argument; arguments are not written to, nor is the memory behind them.
func TestMemory(t *testing.T) {
	lots(41, func(r *rand.Rand, x sieve.Lot) {
		y, mixture := drawAsked(r, x), roomy(drawMixture(r, x))
		x, y.limits, y.tests = roomyLot(x), roomy(y.limits), roomy(y.tests)
		before := memory(x, y, mixture)
		found := results(x, y, mixture)
		for i, l := range found {
			others := fmt.Sprint(found[i+1:]...)
			spoil(l)
			if fmt.Sprint(found[i+1:]...) != others {
				t.Fatalf("%v, %v: writing into the result %d changes another one", x, y, i)
			}
		}
		if memory(x, y, mixture) != before {
			t.Fatalf("%v, %v: an argument has been written to", x, y)
		}
	})
}

// A call with equal arguments returns equal results, whatever has been called before, and whatever has been written into earlier results.
func TestEqualArguments(t *testing.T) {
	var again []func()
	lots(42, func(r *rand.Rand, x sieve.Lot) {
		y, mixture := drawAsked(r, x), drawMixture(r, x)
		first := fmt.Sprint(results(x, y, mixture)...)
		again = append(again, func() {
			found := results(clone(x), asked{y.thing, slices.Clone(y.limits), slices.Clone(y.tests)}, slices.Clone(mixture))
			if two := fmt.Sprint(found...); two != first {
				t.Fatalf("%v, %v: %v, and then %v", x, y, first, two)
			}
			for _, l := range found {
				spoil(l)
			}
		})
	})
	for range 2 {
		for _, call := range again {
			call()
		}
	}
}

// R3
func TestEmpty(t *testing.T) {
	none, testless := lead(), tested(lead())
	none.Results, testless.Results, testless.Tests = []sieve.Result{}, []sieve.Result{}, [][]int{}
	for _, x := range []struct {
		one, other sieve.Lot
		a, b       asked
		m, n       []int
	}{
		{lead(), none, asked{0, limits(), nil}, asked{0, limits(), list()}, list(5, 3, 2), list(5, 3, 2)},
		{lead(), lead(), asked{0, nil, nil}, asked{0, list(), list()}, nil, list()},
		{tested(lead()), testless, asked{0, limits(), nil}, asked{0, limits(), list()}, nil, list()},
		{tested(lead(), nil, nil), tested(lead(), list(), list()), asked{0, limits(), nil}, asked{0, limits(), list()}, nil, list()},
		{sieve.Lot{}, sieve.Lot{Tests: [][]int{}, Results: []sieve.Result{}}, asked{}, asked{0, list(), list()}, nil, list()},
	} {
		if one, other := results(x.one, x.a, x.m), results(x.other, x.b, x.n); !equal(one, other) {
			t.Errorf("%v: %v; %v: %v", x.one, one, x.other, other)
		}
	}
}

// drawOdd returns a function that draws numbers, small ones above all.
func drawOdd(r *rand.Rand) func() int {
	odd := list(0, 1, 2, 3, -1, 4, 5, 6, 8, 9, 10, 29, 30, 31, 100, 101, 2999, 3000, 3001, -2, math.MaxInt, math.MinInt, math.MaxInt-1, math.MinInt+1)
	return func() int {
		if r.IntN(6) > 0 {
			return odd[r.IntN(4)]
		}
		return odd[r.IntN(len(odd))]
	}
}

// P1: each call returns, whatever its arguments are, and each one has the error of a lot that is not valid, and nothing else (R2).
func TestWhateverTheArgumentsAre(t *testing.T) {
	r, valid, can := chance(43), 0, 0
	number := drawOdd(r)
	numbers := func() (l []int) {
		for range r.IntN(6) {
			l = append(l, number())
		}
		return l
	}
	for range 20000 {
		x := sieve.Lot{Things: number(), Whole: number()}
		for range r.IntN(7) {
			x.Tests = append(x.Tests, numbers())
		}
		for range r.IntN(10) {
			x.Results = append(x.Results, result(number(), number(), number()))
		}
		y := asked{number(), numbers(), numbers()}
		switch z := draw(r, small); r.IntN(4) {
		case 0:
			x = z
		case 1:
			x.Things, x.Tests, x.Whole = z.Things, z.Tests, z.Whole
		case 2:
			x = z
			y.limits = drawLimits(r, z)
		}
		results(x, y, numbers())
		e := sieve.CheckLot(x)
		for _, a := range ask(x, y) {
			if e != api.OK && (a.e != e || !a.zero) || a.e != api.OK && !a.zero {
				t.Fatalf("%v, %v: %v, not %v", x, y, a, e)
			}
			if e == api.OK && a.call == "Pair" && a.e == api.OK {
				can++
			}
		}
		if e == api.OK {
			valid++
		}
	}
	if valid < 5000 || can < 100 {
		t.Errorf("only %d are valid, and of %d there is a pair", valid, can)
	}
}

// widest is a lot with as much of all as there may be.
func widest() sieve.Lot {
	return sieve.Lot{Things: 4, Whole: 30, Tests: lists(list(100, 0, 0, 0), list(0, 100, 0, 0), list(0, 0, 100, 0), list(0, 0, 0, 100), list(100, 100, 100, 100))}
}

func TestWidest(t *testing.T) {
	x, free := widest(), to(0, 30)
	ranges(t, x, free, free, free, free)
	ranges(t, with(x, result(4, 3000, 3000), result(0, 1000, 1999), result(3, 901, 3000)), to(10, 19), to(0, 10), to(0, 10), to(10, 20))
	pair(t, x, list(30, 30, 30, 29), list(0, 1), list(0, 0, 1, 29), list(0, 0, 0, 30))
	pair(t, x, list(10, 10, 10, 10), list(0, 1, 4), list(0, 10, 10, 10), list(0, 10, 0, 20))
	fewest(t, x, list(10, 10, 10, 10), list(0, 1, 2), api.OK)
	fewest(t, x, list(30, 30, 30, 10), list(3), api.OK)
	fewest(t, tested(x, x.Tests[4], x.Tests[4], x.Tests[4], x.Tests[4], x.Tests[4]), list(10, 10, 10, 10), nil, api.ErrMiss)
	for i := range 8 {
		x = with(x, result(i%4, 800+i, 1000))
	}
	if set, e := sieve.Leave(x); !slices.Equal(set, list(0, 4)) || e != api.OK {
		t.Errorf("Leave: %v, %v", set, e)
	}
}
