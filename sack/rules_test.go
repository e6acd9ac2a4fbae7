package sack_test

import (
	"math"
	"math/rand/v2"
	"slices"
	"testing"

	"nochez/api"
	"nochez/sack"
)

func TestLimits(t *testing.T) {
	limits := list(api.MaxSackPlaces, api.MaxSackTrips, api.MaxSackSacks, api.MaxSackDay, api.MaxSackLoad, api.MaxSackWeight, api.MaxSackMarks, api.MaxSackFinds)
	if !slices.Equal(limits, list(5, 6, 4, 30, 4000, 1000, 9, 6)) {
		t.Errorf("other limits: %v", limits)
	}
}

// results has what all calls return for these arguments.
func results(r sack.Roads, p sack.Plan, truth sack.Truth, l []sack.Find) (all []any) {
	add := func(x ...any) { all = append(all, x...) }
	add(sack.CheckRoads(r), sack.ProvePlan(r, p, 40))
	ends, can, e := sack.Play(r, p, truth)
	add(ends, can, e)
	weights, e := sack.Weights(r, p)
	add(weights, e)
	places, days, e := sack.Come(r, p)
	add(places, days, e)
	late, e := sack.Late(r, p)
	add(late, e)
	over, e := sack.Over(r, p)
	add(over, e)
	best, n, e := sack.Best(r)
	add(best, n, e)
	sacks, e := sack.Identify(r, p, l)
	add(sacks, e)
	set, e := sack.Odd(r, p, l)
	add(set, e)
	return all
}

// roomy copies a list to memory with room behind it.
func roomy[T any](l []T) []T { return append(make([]T, 0, len(l)+5), l...) }

// roomyAll copies a list of lists to such memory.
func roomyAll(l [][]int) [][]int {
	l = roomy(l)
	for i := range l {
		l[i] = roomy(l[i])
	}
	return l
}

// whole returns all memory of a list, up to its capacity.
func whole[T any](l []T) []T { return l[:cap(l)] }

// wholes returns all memory of a list of lists.
func wholes(l [][]int) (all [][]int) {
	for _, x := range whole(l) {
		all = append(all, whole(x))
	}
	return all
}

// fill writes an element into all memory of a list.
func fill[T any](l []T, with T) {
	for i := range whole(l) {
		whole(l)[i] = with
	}
}

// spoil writes into a list of results.
func spoil(x any) {
	switch l := x.(type) {
	case []int:
		fill(l, -77)
	case []sack.Range:
		fill(l, to(-77, -77))
	}
}

// listsOf has the lists of results, and those within them.
func listsOf(all []any) (l []any) {
	for _, x := range all {
		switch y := x.(type) {
		case []int, []sack.Range:
			l = append(l, y)
		case [][]int:
			for _, inner := range y {
				l = append(l, inner)
			}
		}
	}
	return l
}

// R4: nothing that is written into a result changes another one, another list of it, or an argument; arguments are not written to, nor is the memory behind them.
func TestMemory(t *testing.T) {
	lengths := 0
	found(41, 6, func(r *rand.Rand, x sack.Roads, p sack.Plan, l []sack.Find) {
		truth := drawTruth(r, x, p)
		truth.Weight, truth.Lost = roomy(truth.Weight), roomyAll(truth.Lost)
		x.Trips, x.Sacks, p, l = roomy(x.Trips), roomy(x.Sacks), roomyAll(p), roomy(l)
		arguments := func() string {
			return text(x, whole(x.Trips), whole(x.Sacks), wholes(p), whole(truth.Weight), wholes(truth.Lost), whole(l))
		}
		before := arguments()
		all := listsOf(results(x, p, truth, l))
		lengths += len(all)
		for i, y := range all {
			others := text(all[i+1:]...)
			spoil(y)
			if text(all[i+1:]...) != others {
				t.Fatalf("%v, %v, %v: writing into list %d changes another one", x, p, l, i)
			}
		}
		if arguments() != before {
			t.Fatalf("%v, %v, %v: an argument has been written to", x, p, l)
		}
	})
	if lengths < 8000 {
		t.Errorf("only %d lists in results", lengths)
	}
}

// A call with equal arguments returns equal results, whatever has been called before, and whatever has been written into earlier results.
func TestEqualArguments(t *testing.T) {
	var again []func()
	found(42, 6, func(r *rand.Rand, x sack.Roads, p sack.Plan, l []sack.Find) {
		truth := drawTruth(r, x, p)
		first := text(results(x, p, truth, l)...)
		again = append(again, func() {
			all := results(clone(x), copied(p), truth, slices.Clone(l))
			if two := text(all...); two != first {
				t.Fatalf("%v, %v, %v: %v, and then %v", x, p, l, first, two)
			}
			for _, y := range listsOf(all) {
				spoil(y)
			}
		})
	})
	for range 2 {
		for _, call := range again {
			call()
		}
	}
}

// R3
func TestEmpty(t *testing.T) {
	bare := func(trips []sack.Trip, sacks []sack.Sack) sack.Roads {
		return with(two(), func(r *sack.Roads) { r.Trips, r.Sacks = trips, sacks })
	}
	for _, x := range []struct {
		one, other sack.Roads
		p, q       sack.Plan
		a, b       sack.Truth
	}{
		{two(), two(), hers(), hers(), his(), his()},
		{two(), two(), nil, sack.Plan{}, his(), his()},
		{two(), two(), lists(nil, nil), lists(list(), list()), sack.Truth{Weight: list(105, 80), Lost: lists(nil, nil)}, sack.Truth{Weight: list(105, 80), Lost: lists(list(), list())}},
		{two(), two(), hers(), hers(), sack.Truth{}, sack.Truth{Weight: list(), Lost: lists()}},
		{bare(nil, two().Sacks), bare([]sack.Trip{}, two().Sacks), lists(nil, nil), lists(list(), list()), his(), his()},
		{bare(two().Trips, nil), bare(two().Trips, []sack.Sack{}), nil, sack.Plan{}, sack.Truth{}, sack.Truth{}},
	} {
		if one, other := text(results(x.one, x.p, x.a, nil)...), text(results(x.other, x.q, x.b, finds())...); one != other {
			t.Errorf("%v: %v; %v: %v", x.one, one, x.other, other)
		}
	}
}

// drawOdd returns a function that draws numbers, small ones above all.
func drawOdd(r *rand.Rand) func() int {
	odd := list(0, 1, 2, 3, -1, 4, 5, 6, 7, 9, 10, 30, 31, 100, 1000, 1001, 4000, 4001, -2, math.MaxInt, math.MinInt, math.MaxInt-1, math.MinInt+1, math.MaxInt/2)
	return func() int {
		if r.IntN(6) > 0 {
			return odd[r.IntN(4)]
		}
		return odd[r.IntN(len(odd))]
	}
}

// drawAny draws roads that need not be valid.
func drawAny(r *rand.Rand, number func() int) sack.Roads {
	x := draw(r, small)
	if r.IntN(3) == 0 {
		x.Places = number()
	}
	if r.IntN(3) == 0 {
		x.Trips = nil
		for range r.IntN(8) {
			x.Trips = append(x.Trips, trip(number(), number(), number(), number(), number(), number(), number()))
		}
	}
	if r.IntN(3) == 0 {
		x.Sacks = nil
		for range r.IntN(6) {
			x.Sacks = append(x.Sacks, bag(number(), number(), number(), number(), number(), number()))
		}
	}
	return x
}

// P1: each call returns, whatever its arguments are, and each one has the error of roads that are not valid, and nothing else (R2).
func TestWhateverTheArgumentsAre(t *testing.T) {
	r, valid, follow := chance(43), 0, 0
	number := drawOdd(r)
	numbers := func() (l []int) {
		for range r.IntN(4) {
			l = append(l, number())
		}
		return l
	}
	for range 20000 {
		x := drawAny(r, number)
		e := sack.CheckRoads(x)
		var p sack.Plan
		truth := sack.Truth{Weight: numbers()}
		for range len(x.Sacks) + r.IntN(2)*(r.IntN(3)-1) {
			p, truth.Lost = append(p, numbers()), append(truth.Lost, numbers())
		}
		if e == api.OK && r.IntN(2) == 0 {
			if p = drawPlan(r, x); r.IntN(2) == 0 {
				truth = drawTruth(r, x, p)
			}
		}
		var l []sack.Find
		for range r.IntN(8) {
			l = append(l, find(number(), number(), number(), number()))
		}
		if sack.ProvePlan(x, p, number()) && e != api.OK {
			t.Fatalf("ProvePlan of %v, %v", x, p)
		}
		answers := ask(x, p, truth, l)
		if answers[1].e == api.OK {
			follow++
		}
		if e == api.OK {
			valid++
		}
		for _, a := range answers {
			if e != api.OK && a.e != e || a.e != api.OK && !a.zero {
				t.Fatalf("%v, %v, %v: %v, not %v", x, p, l, a, e)
			}
		}
	}
	if valid < 4000 || follow < 2000 {
		t.Errorf("only %d are valid, and only %d plans", valid, follow)
	}
}

// widest are roads with as much of all as there may be.
func widest() sack.Roads {
	r := sack.Roads{Places: 5, Sacks: slices.Repeat([]sack.Sack{bag(0, 1, 30, 1, 1000, 9)}, 4)}
	for i := range 6 {
		r.Trips = append(r.Trips, trip(i%2, 1-i%2, 5*i, 5, 4000, 0, 1000))
	}
	return r
}

func TestWidest(t *testing.T) {
	r := widest()
	all := lists(list(0, 1, 2, 3, 4, 5), list(0, 1, 2, 3, 4), list(0, 5), list(4))
	weighs(t, r, all, slices.Repeat(row(to(0, 1000)), 4))
	comes(t, r, all, list(0, 1, 0, 1), list(30, 25, 30, 25))
	fails(t, r, all, list(0, 2), nil)
	sends(t, r, slices.Repeat(lists(list(0)), 4), 20)
	tells(t, r, slices.Repeat(lists(list(0)), 4), slices.Repeat(finds(find(1, 0, 1000, 9)), 4), slices.Repeat(lists(list(0, 1, 2, 3)), 4))
	leaves(t, r, slices.Repeat(lists(list(0)), 4), slices.Repeat(finds(find(1, 1000, 1000, 0)), 6), list(0, 1))
	last := sack.Roads{Places: 2, Trips: []sack.Trip{trip(0, 1, 0, 30, 4000, 0, 0)}, Sacks: slices.Repeat([]sack.Sack{bag(0, 1, 30, 1000, 1000, 1)}, 4)}
	sends(t, last, slices.Repeat(lists(list(0)), 4), 120)
	// The last days that there are.
	late := sack.Roads{Places: 5, Trips: []sack.Trip{trip(4, 3, 30, 30, 4000, 1000, 1000)}, Sacks: slices.Repeat([]sack.Sack{bag(4, 3, 30, 1000, 1000, 1)}, 4)}
	weighs(t, late, slices.Repeat(lists(list(0)), 4), slices.Repeat(row(to(0, 0)), 4))
	comes(t, late, slices.Repeat(lists(list(0)), 4), list(3, 3, 3, 3), list(60, 60, 60, 60))
	fails(t, late, slices.Repeat(lists(list(0)), 4), list(0, 1, 2, 3), nil)
	cannot(t, late)
}

// Each sack has many ways, but most trips cannot carry two of them.
func TestManyPlans(t *testing.T) {
	r := widest()
	r.Sacks = slices.Repeat([]sack.Sack{bag(0, 1, 30, 1000, 1000, 1)}, 3)
	for k := range r.Trips {
		r.Trips[k].Load, r.Trips[k].Loss = 1000, to(0, 0)
	}
	sends(t, r, lists(list(0), list(2), list(4)), 45)
	r.Sacks = append(r.Sacks, bag(1, 0, 30, 1000, 1000, 1))
	sends(t, r, lists(list(0), list(2), list(4), list(1)), 55)
	r.Sacks[2].Start, r.Sacks[2].Goal = 1, 0
	r.Sacks[3].Weight = to(1, 1000)
	sends(t, r, lists(list(0), list(2), list(1), list(3)), 50)
	r.Sacks = append(r.Sacks[:3], bag(0, 1, 30, 1, 1, 1))
	r.Trips[0].Load = 1001
	sends(t, r, lists(list(0), list(2), list(1), list(0)), 35)
	r.Trips[2].Load = 999
	sends(t, r, lists(list(0), list(4), list(1), list(0)), 45)
	r.Trips[4].Load = 999
	cannot(t, r)
	r.Sacks = slices.Repeat([]sack.Sack{bag(0, 1, 30, 1000, 1000, 1)}, 4)
	cannot(t, r)
}
