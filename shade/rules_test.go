package shade_test

import (
	"fmt"
	"math"
	"math/rand/v2"
	"slices"
	"testing"

	"nochez/api"
	"nochez/shade"
)

func TestLimits(t *testing.T) {
	limits := list(api.MaxShadeLots, api.MaxShadeStrength, api.MaxShadeStock, api.MaxShadePrice, api.MaxShadeWeight, api.MaxShadeBind, api.MaxShadeTin, api.MaxShadeAlum, api.MaxShadeTime, api.MaxShadeDepth)
	if !slices.Equal(limits, list(3, 1000, 10, 100, 100, 50, 5, 10, 10, 100000)) {
		t.Errorf("other limits: %v", limits)
	}
}

// results has what all calls return for these arguments.
func results(h shade.House, y asked, cost int) (found []any) {
	add := func(l ...any) { found = append(found, l...) }
	add(shade.CheckHouse(h), shade.ProveRecipe(h, y.r, y.o, cost))
	depth, hue, e := shade.Dye(h, y.r, y.t)
	add(depth, hue, e)
	depths, e := shade.Depths(h, y.r)
	add(depths, e)
	is, e := shade.Hits(h, y.r, y.o)
	add(is, e)
	miss, e := shade.Miss(h, y.r, y.o)
	add(miss.Strength, miss.Bind, miss.Uptake, e)
	n, e := shade.Cost(h, y.r)
	add(n, e)
	best, least, e := shade.Best(h, y.o)
	add(best.Grain, best.Tin, best.Alum, best.Time, least, e)
	return found
}

// equal compares results; nil and a list without elements are the same (R3).
func equal(one, two []any) bool { return fmt.Sprint(one...) == fmt.Sprint(two...) }

// drawAsked draws what a house can be asked for.
func drawAsked(r *rand.Rand, h shade.House) asked {
	m := drawRecipe(r, h)
	return asked{m, drawTruth(r, h), drawOrder(r, h, m)}
}

// roomy copies a list to memory with room behind it.
func roomy[T any](l []T) []T { return append(make([]T, 0, len(l)+5), l...) }

// whole returns all memory of a list, up to its capacity.
func whole[T any](l []T) []T { return l[:cap(l)] }

// memory writes down all memory of arguments.
func memory(h shade.House, y asked) string {
	return fmt.Sprint(h, y, whole(h.Lots), whole(y.r.Grain), whole(y.t.Strength))
}

// spoil writes into all memory of a result.
func spoil(x any) {
	if l, is := x.([]int); is {
		for i := range whole(l) {
			whole(l)[i] = -77
		}
	}
}

// R4: nothing that is written into a result changes another one, or an argument; arguments are not written to, nor is the memory behind them.
func TestMemory(t *testing.T) {
	grains := 0
	some(41, 80, []size{small, few, wide, loose}, func(r *rand.Rand, h shade.House) {
		y := drawAsked(r, h)
		h.Lots, y.r.Grain, y.t.Strength = roomy(h.Lots), roomy(y.r.Grain), roomy(y.t.Strength)
		was := memory(h, y)
		found := results(h, y, costOf(h, y.r))
		for i, l := range found {
			if grain, is := l.([]int); is && len(grain) > 0 {
				grains++
			}
			others := fmt.Sprint(found[i+1:]...)
			spoil(l)
			if fmt.Sprint(found[i+1:]...) != others {
				t.Fatalf("%v, %v: writing into the result %d changes another one", h, y, i)
			}
		}
		if memory(h, y) != was {
			t.Fatalf("%v, %v: an argument has been written to", h, y)
		}
	})
	if grains < 200 {
		t.Errorf("only %d lists in results", grains)
	}
}

// A call with equal arguments returns equal results, whatever has been called before, and whatever has been written into earlier results.
func TestEqualArguments(t *testing.T) {
	var again []func()
	some(42, 60, []size{small, few, wide, loose}, func(r *rand.Rand, h shade.House) {
		y := drawAsked(r, h)
		first := fmt.Sprint(results(h, y, costOf(h, y.r))...)
		again = append(again, func() {
			found := results(clone(h), asked{cloneRecipe(y.r), cloneTruth(y.t), y.o}, costOf(h, y.r))
			if two := fmt.Sprint(found...); two != first {
				t.Fatalf("%v, %v: %v, and then %v", h, y, first, two)
			}
			for _, l := range found {
				spoil(l)
			}
		})
	})
	for range 2 {
		for _, call := range again {
			call()
		}
	}
}

// R3
func TestEmpty(t *testing.T) {
	for _, x := range []struct{ one, other shade.House }{
		{shade.House{}, shade.House{Lots: []shade.Lot{}}},
		{bare(), bare([]shade.Lot{}...)},
		{house(), house()},
	} {
		y := fitting()
		y.r.Grain, y.t.Strength = nil, nil
		z := fitting()
		z.r.Grain, z.t.Strength = list(), list()
		if one, other := results(x.one, y, 50), results(x.other, z, 50); !equal(one, other) {
			t.Errorf("%v: %v; %v: %v", x.one, one, x.other, other)
		}
	}
}

// drawOdd returns a function that draws numbers, small ones above all.
func drawOdd(r *rand.Rand) func() int {
	odd := list(0, 1, 2, 3, -1, 4, 5, 6, 7, 10, 11, 50, 51, 99, 100, 101, 1000, 1001, -2, 100000, 100001, math.MaxInt, math.MinInt, math.MaxInt-1, math.MinInt+1, math.MaxInt/2)
	return func() int {
		if r.IntN(6) > 0 {
			return odd[r.IntN(4)]
		}
		return odd[r.IntN(len(odd))]
	}
}

// drawAny draws a house that need not be valid.
func drawAny(r *rand.Rand, number func() int) shade.House {
	h := draw(r, few)
	if r.IntN(3) == 0 {
		h.Lots = nil
		for range r.IntN(6) {
			h.Lots = append(h.Lots, lot(number(), number(), min(number(), 2), number()))
		}
	}
	if r.IntN(4) == 0 {
		h.Wool = shade.Wool{Weight: number(), Bind: to(number(), number()), Uptake: to(number(), number())}
	}
	if r.IntN(4) == 0 {
		h.Full, h.Tin, h.Alum, h.Hour = number(), number(), number(), number()
	}
	return h
}

// P1: each call returns, whatever its arguments are, and each one has the error of a house that is not valid, and nothing else (R2).
func TestWhateverTheArgumentsAre(t *testing.T) {
	r, valid, can, fails := chance(43), 0, 0, 0
	number := drawOdd(r)
	numbers := func(some int) (l []int) {
		for range max(0, some-r.IntN(2)*r.IntN(3)) {
			l = append(l, number())
		}
		return l
	}
	for range 4000 {
		h := drawAny(r, number)
		y := asked{
			recipe(numbers(len(h.Lots)), number(), number(), number()), truth(numbers(len(h.Lots)), number(), number()),
			order(to(number(), number()), to(number(), number())),
		}
		if r.IntN(2) == 0 {
			y.o = order(to(0, 100000), to(r.IntN(2), 100))
		}
		results(h, y, number())
		e := shade.CheckHouse(h)
		if e == api.OK {
			valid++
		}
		for _, a := range ask(h, y) {
			if e != api.OK && (a.e != e || !a.zero) || a.e != api.OK && !a.zero {
				t.Fatalf("%v, %v: %v, not %v", h, y, a, e)
			}
			switch {
			case e == api.OK && a.call == "Depths" && a.e == api.OK:
				can++
			case e == api.OK && a.call == "Depths":
				fails++
			}
		}
	}
	if valid < 1200 || can < 150 || fails < 400 {
		t.Errorf("only %d are valid, and of %d there are depths, of %d none", valid, can, fails)
	}
}

// widest is a house with as much of all as there may be.
func widest() shade.House {
	return shade.House{
		Lots: slices.Repeat([]shade.Lot{lot(0, 1000, 10, 100)}, 3), Wool: shade.Wool{Weight: 1, Bind: to(0, 50), Uptake: to(0, 100)},
		Full: 10, Tin: 100, Alum: 100, Hour: 100,
	}
}

func TestWidest(t *testing.T) {
	h, all := widest(), recipe(list(10, 10, 10), 5, 10, 10)
	dyes(t, h, all, truth(list(1000, 1000, 1000), 50, 100), 25000, 60)
	spreads(t, h, all, to(0, 25000))
	costs(t, h, all, 5500)
	hits(t, h, all, order(to(0, 25000), to(60, 60)))
	misses(t, h, all, order(to(0, 24999), to(0, 100)), truth(list(0, 0, 250), 25, 100))
	misses(t, h, all, order(to(1, 25000), to(0, 100)), truth(list(0, 0, 0), 0, 0))
	lacks(t, h, order(to(1, 100000), to(0, 100)))
	finds(t, h, order(to(0, 25000), to(60, 60)), recipe(list(0, 0, 0), 1, 2, 0), 300)
	sure := widest()
	for i := range sure.Lots {
		sure.Lots[i].Strength = to(83, 83)
	}
	sure.Wool.Bind, sure.Wool.Uptake = to(50, 50), to(100, 100)
	finds(t, sure, order(to(24900, 24999), to(0, 100)), recipe(list(10, 10, 10), 5, 10, 10), 5500)
	sure.Lots[0].Strength = to(84, 84)
	finds(t, sure, order(to(25000, 100000), to(60, 60)), recipe(list(10, 10, 10), 5, 10, 10), 5500)
}
