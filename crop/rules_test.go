package crop_test

import (
	"fmt"
	"math"
	"math/rand/v2"
	"slices"
	"testing"

	"nochez/api"
	"nochez/crop"
	"nochez/grow"
)

func TestLimits(t *testing.T) {
	if api.MaxCropTerraces != 3 || api.MaxCropDays != 5 || api.MaxCropPickers != 2 || api.MaxCropWeathers != 4 || api.MaxCropAmount != 60 || api.MaxCropGrowth != 20 {
		t.Error("another limit")
	}
}

// results has what all calls return for these arguments.
func results(s crop.Season, p [][]int, weather int, fields []crop.Field) (all []any) {
	add := func(x ...any) { all = append(all, x...) }
	add(crop.CheckSeason(s))
	taken, left, e := crop.Play(s, p, weather)
	add(taken, left, e)
	least, first, e := crop.Worst(s, p)
	add(least, first, e)
	best, most, e := crop.Best(s)
	add(best, most, e)
	above, e := crop.Above(s, p)
	add(above, e, crop.ProveWorst(s, p, weather))
	ready, e := crop.Ready(fields)
	add(ready, e)
	return all
}

// equal compares results; nil and a list without elements are the same (R3).
func equal(one, two []any) bool { return fmt.Sprint(one...) == fmt.Sprint(two...) }

// roomy copies a list to memory with room behind it.
func roomy[T any](l []T) []T { return append(make([]T, 0, len(l)+5), l...) }

// spoil writes into all memory of a list, up to its capacity.
func spoil(l []int) {
	for i := range l[:cap(l)] {
		l[:cap(l)][i] = -77
	}
}

// lists has the lists of results, and those within them.
func lists(all []any) (l [][]int) {
	for _, x := range all {
		switch y := x.(type) {
		case []int:
			l = append(l, y)
		case [][]int:
			l = append(l, y...)
		}
	}
	return l
}

// R4: nothing that is written into a result changes another one, another list of it, or an argument; arguments are not written to, nor is the memory behind them.
func TestMemory(t *testing.T) {
	seasons(31, func(r *rand.Rand, s crop.Season, p [][]int) {
		f := drawField(r)
		f.Brood.Needs, f.Brood.Weak, f.Brood.Days, f.Seen = roomy(f.Brood.Needs), roomy(f.Brood.Weak), roomy(f.Brood.Days), roomy(f.Seen)
		s.Terraces, s.Weathers, p = roomy(s.Terraces), roomy(s.Weathers), roomy(p)
		fields := roomy([]crop.Field{f, f})
		for i := range s.Weathers {
			s.Weathers[i] = roomy(s.Weathers[i])
		}
		for i := range p {
			p[i] = roomy(p[i])
		}
		arguments := func() string {
			text := fmt.Sprint(s, p, fields[:cap(fields)], s.Terraces[:cap(s.Terraces)], s.Weathers[:cap(s.Weathers)], p[:cap(p)])
			for _, l := range slices.Concat(s.Weathers, p, [][]int{f.Brood.Needs, f.Brood.Weak}) {
				text += fmt.Sprint(l[:cap(l)])
			}
			return text + fmt.Sprint(f.Brood.Days[:cap(f.Brood.Days)], f.Seen[:cap(f.Seen)])
		}
		before := arguments()
		all := lists(results(s, p, 0, fields))
		for i, l := range all {
			others := fmt.Sprint(all[i+1:])
			spoil(l)
			if fmt.Sprint(all[i+1:]) != others {
				t.Fatalf("%v, %v: writing into list %d changes another one", s, p, i)
			}
		}
		if arguments() != before {
			t.Fatalf("%v, %v: an argument has been written to", s, p)
		}
	})
}

// A call with equal arguments returns equal results, whatever has been called before.
func TestEqualArguments(t *testing.T) {
	var again []func()
	seasons(32, func(r *rand.Rand, s crop.Season, p [][]int) {
		fields := []crop.Field{drawField(r)}
		first := results(s, p, 0, fields)
		again = append(again, func() {
			if two := results(clone(s), slices.Clone(p), 0, slices.Clone(fields)); !equal(first, two) {
				t.Fatalf("%v, %v: %v, and then %v", s, p, first, two)
			}
		})
	})
	for _, call := range again {
		call()
	}
}

// R3
func TestEmpty(t *testing.T) {
	none := two()
	none.Terraces, none.Weathers = terraces(), plan()
	empty := crop.Season{Days: none.Days, Pickers: none.Pickers}
	for _, x := range []struct {
		s, u crop.Season
		p, q [][]int
		l, m []crop.Field
	}{
		{two(), two(), nil, plan(), nil, []crop.Field{}},
		{two(), two(), plan(nil, list(1), nil), plan(list(), list(1), list()), nil, nil},
		{none, empty, turns(), turns(), nil, nil},
		{two(), two(), nil, nil, []crop.Field{brood(3, 5, day(3, 4, 0, 0))}, []crop.Field{{Brood: brood(3, 5, day(3, 4, 0, 0)).Brood, Seen: []grow.Seen{}, Number: 5}}},
	} {
		if one, other := results(x.s, x.p, 0, x.l), results(x.u, x.q, 0, x.m); !equal(one, other) {
			t.Errorf("%v, %v: %v; %v, %v: %v", x.s, x.p, one, x.u, x.q, other)
		}
	}
}

// P1: each call returns, whatever its arguments are, and each one has the error of a season that is not valid, and nothing else (R2).
func TestWhateverTheArgumentsAre(t *testing.T) {
	r := chance(35)
	odd := list(0, 1, 2, 3, -1, 4, 5, 6, 20, 21, 60, 61, 100, 101, 1000, -2, math.MaxInt, math.MinInt, math.MaxInt-1, math.MinInt+1)
	number := func() int {
		if r.IntN(4) > 0 {
			return odd[r.IntN(4)]
		}
		return odd[r.IntN(len(odd))]
	}
	numbers := func(most int) (l []int) {
		for range r.IntN(most + 1) {
			l = append(l, number())
		}
		return l
	}
	for range 20000 {
		s := crop.Season{Days: number(), Pickers: number()}
		for range r.IntN(5) {
			s.Terraces = append(s.Terraces, terrace(number(), number(), number(), number()))
		}
		for range r.IntN(6) {
			s.Weathers = append(s.Weathers, numbers(6))
		}
		if r.IntN(2) == 0 {
			s = draw(r, 3)
		}
		var p [][]int
		for range r.IntN(5) {
			p = append(p, numbers(3))
		}
		var fields []crop.Field
		for range r.IntN(5) {
			f := brood(number(), number(), day(number(), number(), number(), number()))
			f.Seen = []grow.Seen{seen(number(), number(), number(), number(), number())}
			fields = append(fields, f)
		}
		weather := number()
		results(s, p, weather, fields)
		if e := crop.CheckSeason(s); e != api.OK {
			for _, a := range ask(s, p, weather) {
				if a.e != e || !a.zero {
					t.Fatalf("%v, %v: %v, not %v", s, p, a, e)
				}
			}
		}
	}
}

// largest draws a season with as much of all as there may be.
func largest(r *rand.Rand) crop.Season {
	s := crop.Season{Days: 5, Pickers: 2}
	for range 3 {
		s.Terraces = append(s.Terraces, terrace(r.IntN(61), 60, r.IntN(11), between(r, 10, 60)))
	}
	for range 4 {
		var weather []int
		for range 5 {
			weather = append(weather, r.IntN(21))
		}
		s.Weathers = append(s.Weathers, weather)
	}
	return s
}

// P4.3, P4.4 with seasons as large as they may be.
func TestLargest(t *testing.T) {
	r := chance(36)
	for range 12 {
		s := largest(r)
		want, most := best(s, nil)
		p, n, e := crop.Best(s)
		if !same(p, want) || n != most || e != api.OK {
			t.Fatalf("Best of %v: %v, %d, %v, not %v, %d", s, p, n, e, want, most)
		}
	}
	for range 100 {
		s := largest(r)
		begun := drawBegun(r, s, between(r, 2, 5))
		n, e := crop.Above(s, begun)
		if _, want := best(s, begun); n != want || e != api.OK {
			t.Fatalf("Above of %v, %v: %d, %v, not %d", s, begun, n, e, want)
		}
	}
}

// P1: nothing makes the best plan hard to find, not even terraces in which each choice leaves other amounts.
func TestManyLargest(t *testing.T) {
	r := chance(37)
	for range 200 {
		s := largest(r)
		p, n, e := crop.Best(s)
		if above, f := crop.Above(s, p[:2]); above != n || e != api.OK || f != api.OK {
			t.Fatalf("Best of %v: %v, %d, %v, but Above of its beginning is %d, %v", s, p, n, e, above, f)
		}
	}
}
