package prey_test

import (
	"fmt"
	"math"
	"math/rand/v2"
	"slices"
	"testing"

	"nochez/api"
	"nochez/nest"
	"nochez/prey"
)

func TestLimits(t *testing.T) {
	if api.MaxPreyEats != 100 || api.MaxPreyWeeks != 300 || api.MaxPreyHands != 8 || api.MaxPreyFew != 2 || api.MaxPreyAhead != 3 {
		t.Error("another limit")
	}
}

// results has what all calls return for these arguments.
func results(f prey.Field, p [][]int, path []int, hands, weeks int) (all []any) {
	add := func(x ...any) { all = append(all, x...) }
	add(prey.CheckField(f))
	may, e := prey.May(f, p)
	add(may, e)
	loss, worst, e := prey.Loss(f, p)
	add(loss, worst, e)
	shortest, e := prey.Clear(f, hands)
	add(shortest, e)
	fewest, e := prey.Hands(f)
	add(fewest, e)
	best, loss, e := prey.Best(f, hands, weeks)
	add(best, loss, e)
	add(prey.ProvePath(f, p, path, loss), prey.ProveClear(f, p, hands))
	return all
}

// equal compares results; nil and a list without elements are the same (R3).
func equal(one, two []any) bool { return fmt.Sprint(one...) == fmt.Sprint(two...) }

// roomy copies a list to memory with room behind it.
func roomy[T any](l []T) []T { return append(make([]T, 0, len(l)+5), l...) }

// spoil writes into all memory of a list, up to its capacity.
func spoil(l []int) {
	for i := range l[:cap(l)] {
		l[:cap(l)][i] = -77
	}
}

// lists has the lists of results, and those within them.
func lists(all []any) (l [][]int) {
	for _, x := range all {
		switch y := x.(type) {
		case []int:
			l = append(l, y)
		case [][]int:
			l = append(l, y...)
		}
	}
	return l
}

// R4: nothing that is written into a result changes another one, another list of it, or an argument; arguments are not written to, nor is the memory behind them.
func TestMemory(t *testing.T) {
	fields(31, func(r *rand.Rand, f prey.Field, p [][]int) {
		f.Grove.Pads, f.Grove.Joins, f.Grove.Kinds = roomy(f.Grove.Pads), roomy(f.Grove.Joins), roomy(f.Grove.Kinds)
		f.Start, f.Eats, p = roomy(f.Start), roomy(f.Eats), roomy(p)
		for i := range p {
			p[i] = roomy(p[i])
		}
		path := roomy(list(f.Start[0]))
		arguments := func() string {
			g, text := f.Grove, ""
			for _, week := range p {
				text += fmt.Sprint(week[:cap(week)])
			}
			return text + fmt.Sprint(f, p[:cap(p)], path[:cap(path)], g.Pads[:cap(g.Pads)], g.Joins[:cap(g.Joins)], g.Kinds[:cap(g.Kinds)], f.Start[:cap(f.Start)], f.Eats[:cap(f.Eats)])
		}
		before := arguments()
		all := lists(results(f, p, path, 2, 3))
		for i, l := range all {
			others := fmt.Sprint(all[i+1:])
			spoil(l)
			if fmt.Sprint(all[i+1:]) != others {
				t.Fatalf("%v, %v: writing into list %d changes another one", f, p, i)
			}
		}
		if arguments() != before {
			t.Fatalf("%v, %v: an argument has been written to", f, p)
		}
	})
}

// A call with equal arguments returns equal results, whatever has been called before.
func TestEqualArguments(t *testing.T) {
	var again []func()
	fields(32, func(r *rand.Rand, f prey.Field, p [][]int) {
		first := results(f, p, list(0), 2, 2)
		again = append(again, func() {
			if two := results(clone(f), slices.Clone(p), list(0), 2, 2); !equal(first, two) {
				t.Fatalf("%v, %v: %v, and then %v", f, p, first, two)
			}
		})
	})
	for _, call := range again {
		call()
	}
}

// R3
func TestEmpty(t *testing.T) {
	for _, x := range []struct {
		f, g prey.Field
		p, q [][]int
		l, m []int
	}{
		{row(5), row(5), nil, [][]int{}, nil, list()},
		{row(5), row(5), plan(nil, list(1)), plan(list(), list(1)), list(0), list(0)},
		{prey.Field{Grove: row(5).Grove, Eats: row(5).Eats}, on(row(5), list()...), nil, nil, nil, nil},
		{joined(2), joined(2, []nest.Join{}...), nil, nil, nil, nil},
	} {
		if one, two := results(x.f, x.p, x.l, 2, 2), results(x.g, x.q, x.m, 2, 2); !equal(one, two) {
			t.Errorf("%v, %v: %v; %v, %v: %v", x.f, x.p, one, x.g, x.q, two)
		}
	}
}

// P7: joins lead to the same results in whatever order, and whichever way round, they are listed.
func TestAnyOrder(t *testing.T) {
	fields(33, func(r *rand.Rand, f prey.Field, p [][]int) {
		g := clone(f)
		joins := g.Grove.Joins
		r.Shuffle(len(joins), func(i, j int) { joins[i], joins[j] = joins[j], joins[i] })
		for i, j := range joins {
			if r.IntN(2) == 0 {
				joins[i] = nest.Join{A: j.B, B: j.A}
			}
		}
		if one, two := results(f, p, list(0), 2, 2), results(g, p, list(0), 2, 2); !equal(one, two) {
			t.Fatalf("%v, %v: %v; in another order %v", f, p, one, two)
		}
	})
}

// Of the grove only the pads and the joins are used.
func TestOnlyPadsAndJoins(t *testing.T) {
	fields(34, func(r *rand.Rand, f prey.Field, p [][]int) {
		g := clone(f)
		for pad := range g.Grove.Pads {
			g.Grove.Pads[pad] = nest.Pad{Need: 0, Room: r.IntN(1001)}
		}
		g.Grove.Kinds = []nest.Kind{{Young: r.IntN(1001), Own: nest.Range{Lo: 0, Hi: 1000}, Near: nest.Range{Lo: r.IntN(9), Hi: 9}}}
		if one, two := results(f, p, list(0), 2, 2), results(g, p, list(0), 2, 2); !equal(one, two) {
			t.Fatalf("%v, %v: %v; with other pads and kinds %v", f, p, one, two)
		}
	})
}

// P1: each call returns, whatever its arguments are, and each one has the error of a field that is not valid, and nothing else (R2).
func TestWhateverTheArgumentsAre(t *testing.T) {
	r := chance(35)
	odd := list(0, 1, -1, 2, 3, 5, 7, 8, 9, 63, 64, 65, 100, 101, 300, 301, 1000, 1001, -2, math.MaxInt, math.MinInt, math.MaxInt-1, math.MinInt+1)
	number := func() int {
		if r.IntN(4) > 0 {
			return odd[r.IntN(6)]
		}
		return odd[r.IntN(len(odd))]
	}
	numbers := func(most int) (l []int) {
		for range r.IntN(most + 1) {
			l = append(l, number())
		}
		return l
	}
	for range 20000 {
		f := prey.Field{Start: numbers(9), Eats: numbers(9)}
		for range r.IntN(10) {
			f.Grove.Pads = append(f.Grove.Pads, nest.Pad{Need: number(), Room: number()})
		}
		for range r.IntN(4) {
			f.Grove.Joins = append(f.Grove.Joins, nest.Join{A: number(), B: number()})
		}
		for range r.IntN(4) {
			f.Grove.Kinds = append(f.Grove.Kinds, nest.Kind{Young: number(), Own: nest.Range{Lo: number(), Hi: number()}})
		}
		if r.IntN(2) == 0 {
			f.Grove = draw(r, 5).Grove
		}
		if r.IntN(2) == 0 {
			f = draw(r, 5)
		}
		var p [][]int
		for range r.IntN(5) {
			p = append(p, numbers(3))
		}
		hands, weeks := number(), number()
		results(f, p, numbers(5), hands, weeks)
		prey.ProvePath(f, p, numbers(5), number())
		if e := prey.CheckField(f); e != api.OK {
			for _, a := range append(askPlan(f, p), ask(f, hands, weeks)...) {
				if a.e != e || !a.zero {
					t.Fatalf("%v, %v: %v, not %v", f, p, a, e)
				}
			}
		}
	}
}

// P1 with results as large as they may be: all calls return for the largest field, and for plans of 300 weeks.
func TestLargest(t *testing.T) {
	f := full()
	for pad := range f.Eats {
		f.Eats[pad] = 100
	}
	p := make([][]int, 300)
	for week := range p {
		p[week] = weeks(8, 8)[week%256]
	}
	for hands := range 9 {
		results(f, p, list(0), hands, 3)
	}
	if n, e := prey.Hands(f); e != api.OK || n < 4 || n > 8 {
		t.Errorf("Hands: %d, %v", n, e)
	}
}
