package kill_test

import (
	"fmt"
	"math"
	"math/rand/v2"
	"reflect"
	"slices"
	"testing"

	"nochez/api"
	"nochez/kill"
)

func TestLimits(t *testing.T) {
	if api.MaxKillPlaces != 3 || api.MaxKillLots != 3 || api.MaxKillSteps != 5 || api.MaxKillWeight != 1000 || api.MaxKillWeighs != 6 || kill.None != -1 {
		t.Error("another limit")
	}
}

// results has what all calls return for these arguments.
func results(h kill.House, p kill.Plan, truth kill.Truth, seen []kill.Weigh) (found []any) {
	add := func(l ...any) { found = append(found, l...) }
	add(kill.CheckHouse(h))
	water, can, e := kill.Play(h, p, truth)
	add(water, can, e)
	waters, e := kill.Waters(h, p, seen)
	add(waters, e)
	set, e := kill.Leave(h, p, seen)
	add(set, e)
	steps, colours, e := kill.Killed(h, p)
	add(steps, colours, e)
	wrong, e := kill.Wrong(h, p)
	add(wrong, e)
	shrink, e := kill.Shrink(h, p)
	add(shrink, e)
	best, n, e := kill.Best(h)
	add(best, n, e, kill.ProvePlan(h, p, 7))
	return found
}

// equal compares results; nil and a list without elements are the same (R3).
func equal(one, two []any) bool { return fmt.Sprint(one...) == fmt.Sprint(two...) }

// roomy copies a list to memory with room behind it.
func roomy[T any](l []T) []T { return append(make([]T, 0, len(l)+5), l...) }

// roomyAll copies a list of lists to such memory.
func roomyAll(l [][]int) [][]int {
	l = roomy(l)
	for i := range l {
		l[i] = roomy(l[i])
	}
	return l
}

// fill writes an element into all memory of a list, up to its capacity.
func fill[T any](l []T, with T) {
	for i := range l[:cap(l)] {
		l[:cap(l)][i] = with
	}
}

// spoil writes into a list of results.
func spoil(x any) {
	switch l := x.(type) {
	case []int:
		fill(l, -77)
	case []uint8:
		fill(l, 77)
	case []kill.Range:
		fill(l, to(-77, -77))
	}
}

// listsOf has the lists of results, and those within them.
func listsOf(found []any) (l []any) {
	for _, x := range found {
		switch y := x.(type) {
		case []int, []uint8:
			l = append(l, y)
		case [][]int:
			for _, inner := range y {
				l = append(l, inner)
			}
		case [][]kill.Range:
			for _, inner := range y {
				l = append(l, inner)
			}
		}
	}
	return l
}

// all has all memory of lists, up to their capacity.
func all(l [][]int) (found []any) {
	for _, x := range l[:cap(l)] {
		found = append(found, x[:cap(x)])
	}
	return found
}

// R4: nothing that is written into a result changes another one, another list of it, or an argument; arguments are not written to, nor is the memory behind them.
func TestMemory(t *testing.T) {
	weighings(31, 6, func(r *rand.Rand, h kill.House, p kill.Plan, seen []kill.Weigh) {
		truth := drawTruth(r, h, p)
		truth.Water, truth.Off = roomy(truth.Water), roomyAll(truth.Off)
		h.Places, h.Lots, p, seen = roomy(h.Places), roomy(h.Lots), roomyAll(p), roomy(seen)
		arguments := func() string {
			return fmt.Sprint(h, h.Places[:cap(h.Places)], h.Lots[:cap(h.Lots)], all(p), truth.Water[:cap(truth.Water)], all(truth.Off), seen[:cap(seen)])
		}
		before := arguments()
		found := listsOf(results(h, p, truth, seen))
		for i, l := range found {
			others := fmt.Sprint(found[i+1:]...)
			spoil(l)
			if fmt.Sprint(found[i+1:]...) != others {
				t.Fatalf("%v, %v: writing into list %d changes another one", h, p, i)
			}
		}
		if arguments() != before {
			t.Fatalf("%v, %v: an argument has been written to", h, p)
		}
	})
}

// A call with equal arguments returns equal results, whatever has been called before, and whatever has been written into earlier results.
func TestEqualArguments(t *testing.T) {
	var again []func()
	weighings(32, 6, func(r *rand.Rand, h kill.House, p kill.Plan, seen []kill.Weigh) {
		truth := drawTruth(r, h, p)
		first := fmt.Sprint(results(h, p, truth, seen)...)
		again = append(again, func() {
			found := results(clone(h), copied(p), truth, slices.Clone(seen))
			if two := fmt.Sprint(found...); two != first {
				t.Fatalf("%v, %v: %v, and then %v", h, p, first, two)
			}
			for _, l := range listsOf(found) {
				spoil(l)
			}
		})
	})
	for range 2 {
		for _, call := range again {
			call()
		}
	}
}

// R3
func TestEmpty(t *testing.T) {
	bare, empty := two(), two()
	bare.Lots, empty.Lots = nil, []kill.Lot{}
	placeless, none := two(), two()
	placeless.Places, none.Places = nil, []kill.Place{}
	for _, x := range []struct {
		one, other kill.House
		p, q       kill.Plan
		a, b       kill.Truth
	}{
		{two(), two(), hers(), hers(), his(), his()},
		{two(), two(), nil, kill.Plan{}, his(), his()},
		{two(), two(), lists(nil, nil), lists(list(), list()), his(), his()},
		{two(), two(), hers(), hers(), kill.Truth{}, kill.Truth{Water: list(), Off: lists()}},
		{two(), two(), hers(), hers(), kill.Truth{Water: list(105, 60), Off: lists(nil, nil)}, kill.Truth{Water: list(105, 60), Off: lists(list(), list())}},
		{bare, empty, nil, kill.Plan{}, kill.Truth{}, kill.Truth{Water: list(), Off: lists()}},
		{placeless, none, hers(), hers(), his(), his()},
	} {
		if one, other := results(x.one, x.p, x.a, nil), results(x.other, x.q, x.b, []kill.Weigh{}); !equal(one, other) {
			t.Errorf("%v: %v; %v: %v", x.one, one, x.other, other)
		}
	}
}

// P1: each call returns, whatever its arguments are, and each one has the error of a house that is not valid, and nothing else (R2).
func TestWhateverTheArgumentsAre(t *testing.T) {
	r, valid, follow := chance(33), 0, 0
	odd := list(0, 1, 2, 3, -1, 4, 5, 6, 7, 10, 100, 999, 1000, 1001, 2000, 2001, -2, math.MaxInt, math.MinInt, math.MaxInt-1, math.MinInt+1)
	number := func() int {
		if r.IntN(6) > 0 {
			return odd[r.IntN(4)]
		}
		return odd[r.IntN(len(odd))]
	}
	numbers := func() (l []int) {
		for range r.IntN(5) {
			l = append(l, number())
		}
		return l
	}
	for range 20000 {
		h := kill.House{Steps: number()}
		for range r.IntN(5) {
			h.Places = append(h.Places, place(number(), number(), uint8(number()), number(), number()))
		}
		for range r.IntN(5) {
			h.Lots = append(h.Lots, lot(number(), number(), number(), uint8(number()), number()))
		}
		var p kill.Plan
		truth := kill.Truth{Water: numbers()}
		for range r.IntN(5) {
			p, truth.Off = append(p, numbers()), append(truth.Off, numbers())
		}
		var seen []kill.Weigh
		for range r.IntN(8) {
			seen = append(seen, weigh(number(), number(), number(), number()))
		}
		y := draw(r, small)
		switch r.IntN(4) {
		case 0:
			h = y
		case 1:
			h.Places, h.Steps = y.Places, y.Steps
		case 2:
			h, p = y, drawPlan(r, y)
			if r.IntN(2) == 0 {
				truth = drawTruth(r, h, p)
			}
		}
		if kill.ProvePlan(h, p, number()) && kill.CheckHouse(h) != api.OK {
			t.Fatalf("ProvePlan of %v, %v", h, p)
		}
		results(h, p, truth, seen)
		answers := ask(h, p, truth, seen)
		if answers[1].e == api.OK {
			follow++
		}
		e := kill.CheckHouse(h)
		if e == api.OK {
			valid++
			continue
		}
		for _, a := range answers {
			if a.e != e || !a.zero {
				t.Fatalf("%v: %v, not %v", h, a, e)
			}
		}
	}
	if valid < 3000 || follow < 2000 {
		t.Errorf("only %d are valid, and only %d plans", valid, follow)
	}
}

// widest is a house with as much of all as there may be.
func widest() (h kill.House) {
	h.Steps = 5
	for range 3 {
		h.Places = append(h.Places, place(3, 5, 2, 0, 1000))
		h.Lots = append(h.Lots, lot(1000, 0, 1000, 2, 1000))
	}
	return h
}

func TestWidest(t *testing.T) {
	h, p := widest(), nowhere(widest())
	for _, l := range p {
		for step := range l {
			l[step] = 2
		}
	}
	all := slices.Repeat([][]kill.Range{slices.Repeat(row(to(0, 1000)), 5)}, 3)
	known(t, h, p, nil, all)
	if r, e := kill.Shrink(h, p); r != to(0, 3000) || e != api.OK {
		t.Errorf("Shrink: %v, %v", r, e)
	}
	if best, n, e := kill.Best(h); n != 15 || e != api.OK || !reflect.DeepEqual(best, slices.Repeat(lists(slices.Repeat(list(0), 5)), 3)) {
		t.Errorf("Best: %v, %d, %v", best, n, e)
	}
	var seen []kill.Weigh
	for i := range 6 {
		seen = append(seen, weigh(i%3, 4-i/3*4, 2000-i*100, 2000-i*100))
	}
	if set, e := kill.Leave(h, p, seen); !slices.Equal(set, list(0, 1, 2)) || e != api.OK {
		t.Errorf("Leave: %v, %v", set, e)
	}
	known(t, h, p, seen[3:], [][]kill.Range{
		append(row(to(700, 700)), slices.Repeat(row(to(0, 700)), 4)...), append(row(to(600, 600)), slices.Repeat(row(to(0, 600)), 4)...), append(row(to(500, 500)), slices.Repeat(row(to(0, 500)), 4)...),
	})
}

// Each lot is right by many lists, but not all lots together.
func TestManyPlans(t *testing.T) {
	h := widest()
	for i := range h.Places {
		h.Places[i] = place(1, 1, 1, 0, 0)
		h.Lots[i] = lot(1000, 1000, 1000, 1, 250)
	}
	h.Places[0].Loss = to(500, 500)
	if p, n, e := kill.Best(h); len(p) > 0 || n != 0 || e != api.ErrMiss {
		t.Errorf("Best of %v: %v, %d, %v", h, p, n, e)
	}
	h.Lots[0].Limit = 500
	want := lists(list(-1, -1, -1, -1, 0), list(-1, -1, 0, 0, -1), list(0, 0, -1, -1, -1))
	if p, n, e := kill.Best(h); !reflect.DeepEqual(p, want) || n != 5 || e != api.OK {
		t.Errorf("Best of %v: %v, %d, %v", h, p, n, e)
	}
}
