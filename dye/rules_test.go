package dye_test

import (
	"fmt"
	"math"
	"math/rand/v2"
	"slices"
	"testing"

	"nochez/api"
	"nochez/dye"
)

func TestLimits(t *testing.T) {
	if api.MaxDyeLots != 6 || api.MaxDyeReadings != 8 || api.MaxDyeStrength != 100 || dye.Scale != 1 || dye.Compare != 2 || dye.None != -1 {
		t.Error("another limit, or another constant")
	}
}

// results has what all calls return for these arguments.
func results(w dye.Works, y asked, s []int, c dye.Chain) (found []any) {
	add := func(l ...any) { found = append(found, l...) }
	add(dye.CheckWorks(w), dye.ProveTruth(w, s))
	bounds, e := dye.Strengths(w)
	add(bounds, e)
	d, e := dye.Difference(w, y.lot, y.other)
	add(d, e)
	ranks, e := dye.Ranks(w)
	add(ranks, e)
	for _, high := range []bool{false, true} {
		truth, e := dye.Show(w, y.lot, high)
		add(truth, e)
		proof, e := dye.Prove(w, y.lot, high)
		add(proof.From, proof.First, proof.Links, e, dye.ProveChain(w, y.lot, high, y.err, c))
	}
	set, e := dye.Leave(w)
	add(set, e)
	lot, width, e := dye.Help(w, y.err)
	add(lot, width, e)
	return found
}

// equal compares results; nil and a list without elements are the same (R3).
func equal(one, two []any) bool { return fmt.Sprint(one...) == fmt.Sprint(two...) }

// drawAsked draws what works can be asked for.
func drawAsked(r *rand.Rand, w dye.Works) asked {
	return asked{r.IntN(len(w.Lots)), r.IntN(len(w.Lots)), r.IntN(101)}
}

// roomy copies a list to memory with room behind it.
func roomy[T any](l []T) []T { return append(make([]T, 0, len(l)+5), l...) }

// whole returns all memory of a list, up to its capacity.
func whole[T any](l []T) []T { return l[:cap(l)] }

// memory writes down all memory of arguments.
func memory(w dye.Works, s []int, c dye.Chain) string {
	return fmt.Sprint(w, c, whole(w.Lots), whole(w.Readings), whole(s), whole(c.Links))
}

// spoil writes into all memory of a list of results.
func spoil(x any) {
	switch l := x.(type) {
	case []int:
		for i := range whole(l) {
			whole(l)[i] = -77
		}
	case []dye.Range:
		for i := range whole(l) {
			whole(l)[i] = to(-77, -77)
		}
	}
}

// R4: nothing that is written into a result changes another one, or an argument; arguments are not written to, nor is the memory behind them.
func TestMemory(t *testing.T) {
	draws(41, func(r *rand.Rand, w dye.Works, s []int) {
		y := drawAsked(r, w)
		c, _ := drawChain(r, w)
		w.Lots, w.Readings, s, c.Links = roomy(w.Lots), roomy(w.Readings), roomy(s), roomy(c.Links)
		before := memory(w, s, c)
		found := results(w, y, s, c)
		for i, l := range found {
			others := fmt.Sprint(found[i+1:]...)
			spoil(l)
			if fmt.Sprint(found[i+1:]...) != others {
				t.Fatalf("%v, %v: writing into the result %d changes another one", w, y, i)
			}
		}
		if memory(w, s, c) != before {
			t.Fatalf("%v, %v: an argument has been written to", w, y)
		}
	})
}

// A call with equal arguments returns equal results, whatever has been called before, and whatever has been written into earlier results.
func TestEqualArguments(t *testing.T) {
	var again []func()
	draws(42, func(r *rand.Rand, w dye.Works, s []int) {
		y := drawAsked(r, w)
		c, _ := drawChain(r, w)
		first := fmt.Sprint(results(w, y, s, c)...)
		again = append(again, func() {
			found := results(clone(w), y, slices.Clone(s), chain(c.From, c.First, slices.Clone(c.Links)...))
			if two := fmt.Sprint(found...); two != first {
				t.Fatalf("%v, %v: %v, and then %v", w, y, first, two)
			}
			for _, l := range found {
				spoil(l)
			}
		})
	})
	for range 2 {
		for _, call := range again {
			call()
		}
	}
}

// R3
func TestEmpty(t *testing.T) {
	for _, x := range []struct {
		one, other dye.Works
		s, p       []int
	}{
		{works(full(2)), dye.Works{Lots: full(2), Readings: []dye.Reading{}}, list(1, 2), list(1, 2)},
		{works(full(1)), dye.Works{Lots: full(1), Readings: []dye.Reading{}}, nil, list()},
		{dye.Works{}, dye.Works{Lots: row(), Readings: []dye.Reading{}}, nil, list()},
		{works(nil, scale(0, 5, 5)), works(row(), scale(0, 5, 5)), nil, list()},
	} {
		one := results(x.one, asked{0, 0, 5}, x.s, chain(0, -1))
		other := results(x.other, asked{0, 0, 5}, x.p, dye.Chain{First: -1, Links: list()})
		if !equal(one, other) {
			t.Errorf("%v: %v; %v: %v", x.one, one, x.other, other)
		}
	}
}

// drawOdd returns a function that draws numbers, small ones above all.
func drawOdd(r *rand.Rand) func() int {
	odd := list(0, 1, 2, 3, -1, 4, 5, 6, 7, 8, 9, 50, 99, 100, 101, -2, -99, -100, -101, math.MaxInt, math.MinInt, math.MaxInt-1, math.MinInt+1)
	return func() int {
		if r.IntN(6) > 0 {
			return odd[r.IntN(4)]
		}
		return odd[r.IntN(len(odd))]
	}
}

// drawAny draws works that need not be valid.
func drawAny(r *rand.Rand, number func() int) (w dye.Works) {
	w, _ = draw(r, small)
	if r.IntN(3) == 0 {
		w.Lots = nil
		for range r.IntN(8) {
			w.Lots = append(w.Lots, to(number(), number()))
		}
	}
	if r.IntN(3) == 0 {
		w.Readings = nil
		for range r.IntN(10) {
			w.Readings = append(w.Readings, dye.Reading{Kind: uint8(r.IntN(4)), Lot: number(), Other: number(), Value: number(), Error: number()})
		}
	}
	return w
}

// P1: each call returns, whatever its arguments are, and each one has the error of works that are not valid, and nothing else (R2).
func TestWhateverTheArgumentsAre(t *testing.T) {
	r, valid, can := chance(43), 0, 0
	number := drawOdd(r)
	numbers := func() (l []int) {
		for range r.IntN(8) {
			l = append(l, number())
		}
		return l
	}
	for range 12000 {
		w, y := drawAny(r, number), asked{number(), number(), number()}
		results(w, y, numbers(), chain(number(), number(), numbers()...))
		e := dye.CheckWorks(w)
		if e == api.OK {
			valid++
		}
		for _, a := range ask(w, y) {
			if e != api.OK && (a.e != e || !a.zero) || a.e != api.OK && !a.zero {
				t.Fatalf("%v, %v: %v, not %v", w, y, a, e)
			}
			if e == api.OK && a.call == "Difference" && a.e == api.OK {
				can++
			}
		}
	}
	if valid < 4000 || can < 1500 {
		t.Errorf("only %d are valid, and of %d there is a difference", valid, can)
	}
}

// widest are works with as much of all as there may be.
func widest() dye.Works {
	return works(full(6), compare(1, 0, 100, 100), compare(2, 1, -100, 100), compare(3, 2, 100, 100), compare(4, 3, -100, 100), compare(5, 4, 100, 100), scale(0, 0, 100), scale(5, 100, 100), scale(3, 50, 100))
}

func TestWidest(t *testing.T) {
	w, free := widest(), to(0, 100)
	strengths(t, w, free, free, free, free, free, free)
	ranks(t, w, to(0, 5), to(0, 3), to(0, 5), to(0, 3), to(0, 5), to(0, 4))
	differs(t, w, 1, 0, free)
	differs(t, w, 2, 0, to(-100, 100))
	leaves(t, w)
	helps(t, w, 100, 0, 600)
	never := works(full(6), slices.Repeat([]dye.Reading{compare(5, 0, 100, 0), compare(5, 0, -100, 0)}, 4)...)
	leaves(t, never, 0, 2, 4, 6)
	worst := works(full(2), slices.Repeat([]dye.Reading{compare(1, 0, 100, 0), compare(0, 1, 100, 0)}, 4)...)
	leaves(t, worst, 0, 2, 4, 6)
	for _, high := range []bool{false, true} {
		c, e := dye.Prove(w, 4, high)
		if e != api.OK || !dye.ProveChain(w, 4, high, map[bool]int{false: 0, true: 100}[high], c) {
			t.Errorf("Prove: %v, %v", c, e)
		}
	}
}
