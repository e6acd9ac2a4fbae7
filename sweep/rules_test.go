package sweep_test

import (
	"fmt"
	"math"
	"math/rand/v2"
	"slices"
	"testing"

	"nochez/api"
	"nochez/sweep"
)

func TestLimits(t *testing.T) {
	if api.MaxSweepParts != 4 || api.MaxSweepPlots != 6 || api.MaxSweepSamples != 8 || api.MaxSweepGrain != 1000 || api.MaxSweepWhole != 24000 || api.MaxSweepError != 100 {
		t.Error("another limit")
	}
}

// results has what all calls return for these arguments.
func results(x sweep.Terrace, truth [][]int, part, plot, err int) (found []any) {
	add := func(l ...any) { found = append(found, l...) }
	add(sweep.CheckTerrace(x))
	plots, e := sweep.Plots(x)
	add(plots, e)
	whole, e := sweep.Whole(x)
	add(whole, e)
	low, e := sweep.Show(x, false)
	add(low, e)
	high, e := sweep.Show(x, true)
	add(high, e)
	set, e := sweep.Leave(x)
	add(set, e)
	number, wide, e := sweep.Worst(x, part, plot, err)
	add(number, wide, e)
	i, k, w, e := sweep.Best(x, err)
	add(i, k, w, e, sweep.ProveTruth(x, truth))
	return found
}

// equal compares results; nil and a list without elements are the same (R3).
func equal(one, two []any) bool { return fmt.Sprint(one...) == fmt.Sprint(two...) }

// roomy copies a list to memory with room behind it.
func roomy[T any](l []T) []T { return append(make([]T, 0, len(l)+5), l...) }

// fill writes an element into all memory of a list, up to its capacity.
func fill[T any](l []T, with T) {
	for i := range l[:cap(l)] {
		l[:cap(l)][i] = with
	}
}

// spoil writes into a list of results.
func spoil(x any) {
	switch l := x.(type) {
	case []int:
		fill(l, -77)
	case []sweep.Range:
		fill(l, to(-77, -77))
	}
}

// listsOf has the lists of results, and those within them.
func listsOf(found []any) (l []any) {
	for _, x := range found {
		switch y := x.(type) {
		case []int:
			l = append(l, y)
		case [][]int:
			for _, inner := range y {
				l = append(l, inner)
			}
		case [][]sweep.Range:
			for _, inner := range y {
				l = append(l, inner)
			}
		}
	}
	return l
}

// R4: nothing that is written into a result changes another one, another list of it, or an argument; arguments are not written to, nor is the memory behind them.
func TestMemory(t *testing.T) {
	terraces(31, func(r *rand.Rand, x sweep.Terrace) {
		truth := roomy(drawTruth(r, x.Parts))
		for i := range truth {
			truth[i] = roomy(truth[i])
		}
		x.Parts, x.Samples = roomy(x.Parts), roomy(x.Samples)
		arguments := func() string {
			text := fmt.Sprint(x, x.Parts[:cap(x.Parts)], x.Samples[:cap(x.Samples)], truth[:cap(truth)])
			for _, l := range truth {
				text += fmt.Sprint(l[:cap(l)])
			}
			return text
		}
		before := arguments()
		all := listsOf(results(x, truth, 0, 0, 3))
		for i, l := range all {
			others := fmt.Sprint(all[i+1:]...)
			spoil(l)
			if fmt.Sprint(all[i+1:]...) != others {
				t.Fatalf("%v: writing into list %d changes another one", x, i)
			}
		}
		if arguments() != before {
			t.Fatalf("%v: an argument has been written to", x)
		}
	})
}

// A call with equal arguments returns equal results, whatever has been called before, and whatever has been written into earlier results.
func TestEqualArguments(t *testing.T) {
	var again []func()
	terraces(32, func(r *rand.Rand, x sweep.Terrace) {
		truth := drawTruth(r, x.Parts)
		first := fmt.Sprint(results(x, truth, 0, 0, 5)...)
		again = append(again, func() {
			found := results(clone(x), slices.Clone(truth), 0, 0, 5)
			if two := fmt.Sprint(found...); two != first {
				t.Fatalf("%v: %v, and then %v", x, first, two)
			}
			for _, l := range listsOf(found) {
				spoil(l)
			}
		})
	})
	for range 2 {
		for _, call := range again {
			call()
		}
	}
}

// R3
func TestEmpty(t *testing.T) {
	none, bare := three(), sweep.Terrace{Weighed: to(0, 5)}
	none.Samples = []sweep.Sample{}
	empty := bare
	empty.Parts, empty.Samples = []sweep.Part{}, []sweep.Sample{}
	for _, x := range []struct {
		one, other sweep.Terrace
		p, q       [][]int
	}{
		{three(), none, lists(list(10, 10, 10)), lists(list(10, 10, 10))},
		{three(), three(), nil, lists()},
		{two(), two(), lists(nil, nil), lists(list(), list())},
		{bare, empty, nil, lists()},
	} {
		if one, other := results(x.one, x.p, 0, 0, 0), results(x.other, x.q, 0, 0, 0); !equal(one, other) {
			t.Errorf("%v: %v; %v: %v", x.one, one, x.other, other)
		}
	}
}

// P1: each call returns, whatever its arguments are, and each one has the error of a terrace that is not valid, and nothing else (R2).
func TestWhateverTheArgumentsAre(t *testing.T) {
	r, valid := chance(33), 0
	odd := list(0, 1, 2, 3, -1, 4, 5, 6, 7, 8, 9, 10, 100, 101, 999, 1000, 1001, 24000, 24001, -2, math.MaxInt, math.MinInt, math.MaxInt-1, math.MinInt+1)
	number := func() int {
		if r.IntN(6) > 0 {
			return odd[r.IntN(4)]
		}
		return odd[r.IntN(len(odd))]
	}
	for range 20000 {
		x := sweep.Terrace{Weighed: to(number(), number())}
		for range r.IntN(6) {
			x.Parts = append(x.Parts, part(number(), number(), number(), number()))
		}
		for range r.IntN(10) {
			x.Samples = append(x.Samples, sample(number(), number(), number(), number()))
		}
		switch y := draw(r, small); r.IntN(4) {
		case 0:
			x = y
		case 1:
			x.Parts, x.Weighed = y.Parts, y.Weighed
		case 2:
			y.Weighed = x.Weighed
			x = y
		}
		var truth [][]int
		for range r.IntN(6) {
			var l []int
			for range r.IntN(4) {
				l = append(l, number())
			}
			truth = append(truth, l)
		}
		part, plot, err := number(), number(), number()
		results(x, truth, part, plot, err)
		e := sweep.CheckTerrace(x)
		if e == api.OK {
			valid++
			continue
		}
		for _, a := range ask(x, part, plot, err) {
			if a.e != e || !a.zero {
				t.Fatalf("%v: %v, not %v", x, a, e)
			}
		}
	}
	if valid < 3000 {
		t.Errorf("only %d are valid", valid)
	}
}

// widest is a terrace with as much of all as there may be.
func widest() (x sweep.Terrace) {
	for range 4 {
		x.Parts = append(x.Parts, part(6, 0, 1000, 1000))
	}
	x.Weighed = to(0, 24000)
	return x
}

// alike has as many lists as parts, with as many equal elements as plots.
func alike[T any](x sweep.Terrace, each T) (l [][]T) {
	for _, p := range x.Parts {
		l = append(l, slices.Repeat([]T{each}, p.Plots))
	}
	return l
}

func TestWidest(t *testing.T) {
	x := widest()
	known(t, x, alike(x, to(0, 1000)), to(0, 24000))
	known(t, weighed(x, 500, 700), alike(x, to(0, 700)), to(500, 700))
	known(t, weighed(x, 23500, 23900), alike(x, to(500, 1000)), to(23500, 23900))
	known(t, weighed(x, 24000, 24000), alike(x, to(1000, 1000)), to(24000, 24000))
	for _, y := range []struct {
		err, number, wide int
	}{{0, 0, 23000}, {1, 1, 23002}, {100, 100, 23200}} {
		if n, w, e := sweep.Worst(x, 3, 5, y.err); n != y.number || w != y.wide || e != api.OK {
			t.Errorf("Worst with %d: %d, %d, %v", y.err, n, w, e)
		}
		if p, k, w, e := sweep.Best(x, y.err); p != 0 || k != 0 || w != y.wide || e != api.OK {
			t.Errorf("Best with %d: %d, %d, %d, %v", y.err, p, k, w, e)
		}
	}
	for i := range 8 {
		x.Samples = append(x.Samples, sample(i%4, i%6, 100*i, 100*i+50))
		x.Parts[i%4].Differ = 1
	}
	if set, e := sweep.Leave(x); !slices.Equal(set, list(0, 1, 2, 3)) || e != api.OK {
		t.Errorf("Leave: %v, %v", set, e)
	}
}
