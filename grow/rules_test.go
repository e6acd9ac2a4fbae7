package grow_test

import (
	"fmt"
	"math"
	"reflect"
	"slices"
	"testing"

	"nochez/api"
	"nochez/grow"
)

func TestLimits(t *testing.T) {
	if api.MaxGrowNeeds != 4 || api.MaxGrowSum != 80 || api.MaxGrowNumber != 100 || api.MaxGrowDays != 8 || api.MaxGrowWarmth != 10 || api.MaxGrowSeen != 6 {
		t.Error("another limit")
	}
}

// results has what all calls return for these arguments.
func results(b grow.Brood, l []grow.Seen, y grow.Truth, number, day int) (all []any) {
	add := func(x ...any) { all = append(all, x...) }
	add(grow.CheckBrood(b))
	stages, alive, can, e := grow.Play(b, y)
	add(stages, alive, can, e)
	ranges, e := grow.Stages(b, l)
	add(ranges, e)
	ranges, e = grow.Alive(b, l)
	add(ranges, e)
	days, surely, e := grow.Ripe(b, l)
	add(days, surely, e)
	safe, e := grow.Safe(b, l, number)
	add(safe, e)
	set, e := grow.Leave(b, l)
	add(set, e, grow.ProveTruth(b, l, y))
	most, e := grow.Show(b, l, day, true)
	add(most.Number, most.Warmth, most.Dead, e)
	least, e := grow.Show(b, l, day, false)
	add(least.Number, least.Warmth, least.Dead, e)
	return all
}

// equal compares results; nil and a list without elements are the same (R3).
func equal(one, two []any) bool { return fmt.Sprint(one...) == fmt.Sprint(two...) }

// spoil writes into all memory of a slice, up to its capacity.
func spoil(x any) {
	switch l := x.(type) {
	case []int:
		for i := range l[:cap(l)] {
			l[:cap(l)][i] = -77
		}
	case []grow.Range:
		for i := range l[:cap(l)] {
			l[:cap(l)][i] = to(-77, -77)
		}
	}
}

// roomy copies a list to memory with room behind it.
func roomy[T any](l []T) []T { return append(make([]T, 0, len(l)+5), l...) }

// R4: nothing that is written into a result changes another one, or an argument; arguments are not written to, nor is the memory behind them.
func TestMemory(t *testing.T) {
	r := chance(41)
	broods(41, func(b grow.Brood, l []grow.Seen) {
		y, _ := drawTruth(r, b)
		b.Needs, b.Weak, b.Days = roomy(b.Needs), roomy(b.Weak), roomy(b.Days)
		l, y.Warmth, y.Dead = roomy(l), roomy(y.Warmth), roomy(y.Dead)
		arguments := func() string {
			return fmt.Sprint(b, l[:cap(l)], y, b.Needs[:cap(b.Needs)], b.Weak[:cap(b.Weak)], b.Days[:cap(b.Days)], y.Warmth[:cap(y.Warmth)], y.Dead[:cap(y.Dead)])
		}
		before := arguments()
		all := results(b, l, y, 1, 0)
		for i := range all {
			others := fmt.Sprint(all[i+1:]...)
			spoil(all[i])
			if fmt.Sprint(all[i+1:]...) != others {
				t.Fatalf("%v, %v: writing into result %d changes another one", b, l, i)
			}
		}
		if arguments() != before {
			t.Fatalf("%v, %v: an argument has been written to", b, l)
		}
	})
}

// A call with equal arguments returns equal results, whatever has been called before.
func TestEqualArguments(t *testing.T) {
	r := chance(42)
	var again []func()
	broods(42, func(b grow.Brood, l []grow.Seen) {
		y, _ := drawTruth(r, b)
		first := results(b, l, y, 20, 0)
		again = append(again, func() {
			if two := results(clone(b), slices.Clone(l), y, 20, 0); !equal(first, two) {
				t.Fatalf("%v, %v: %v, and then %v", b, l, first, two)
			}
		})
	})
	for _, call := range again {
		call()
	}
}

// R3
func TestEmpty(t *testing.T) {
	if !equal(results(three(), nil, fine(), 1, 0), results(three(), []grow.Seen{}, fine(), 1, 0)) {
		t.Error("no observations, and nil")
	}
	one, two := three(), three()
	one.Days, two.Days = nil, []grow.Day{}
	if !equal(results(one, nil, fine(), 1, 0), results(two, nil, fine(), 1, 0)) {
		t.Error("no days, and nil")
	}
	y, z := fine(), fine()
	y.Dead, z.Dead = nil, list()
	if !equal(results(three(), nil, y, 1, 0), results(three(), nil, z, 1, 0)) {
		t.Error("no dead, and nil")
	}
}

// P7: observations lead to the same ranges, and to as small a set, in whatever order they are listed.
func TestAnyOrder(t *testing.T) {
	r := chance(43)
	broods(43, func(b grow.Brood, l []grow.Seen) {
		m := slices.Clone(l)
		r.Shuffle(len(m), func(i, j int) { m[i], m[j] = m[j], m[i] })
		if one, two := answersOf(t, b, l), answersOf(t, b, m); !reflect.DeepEqual(one, two) {
			t.Fatalf("%v, %v: %v, in another order %v", b, l, one, two)
		}
		one, e := grow.Safe(b, l, 10)
		two, f := grow.Safe(b, m, 10)
		if one != two || e != f {
			t.Fatalf("%v, %v: %v is safe, in another order %v", b, l, one, two)
		}
		set, _ := grow.Leave(b, l)
		if other, _ := grow.Leave(b, m); len(set) != len(other) {
			t.Fatalf("%v, %v: %v, in another order %v", b, l, set, other)
		}
	})
}

// P1: each call returns, whatever its arguments are, and each one has the error of a brood that is not valid, and nothing else (R2).
func TestWhateverTheArgumentsAre(t *testing.T) {
	r := chance(44)
	odd := list(0, 1, -1, 2, 3, 5, 7, 8, 9, 10, 11, 80, 81, 100, 101, 1000, 1001, -2, math.MaxInt, math.MinInt, math.MaxInt-1, math.MinInt+1)
	number := func() int {
		if r.IntN(4) > 0 {
			return odd[r.IntN(6)]
		}
		return odd[r.IntN(len(odd))]
	}
	numbers := func(most int) (l []int) {
		for range r.IntN(most + 1) {
			l = append(l, number())
		}
		return l
	}
	for range 20000 {
		b := grow.Brood{Needs: numbers(6), Weak: numbers(7), Number: to(number(), number())}
		for range r.IntN(10) {
			b.Days = append(b.Days, day(number(), number(), number(), number()))
		}
		if r.IntN(2) == 0 {
			b = draw(r, small)
		}
		var l []grow.Seen
		for range r.IntN(8) {
			l = append(l, seen(number(), number(), number(), number(), number()))
		}
		if r.IntN(2) == 0 {
			l = drawSeen(r, draw(r, small), 2)
		}
		y := grow.Truth{Number: number(), Warmth: numbers(9), Dead: numbers(9)}
		results(b, l, y, number(), number())
		if e := grow.CheckBrood(b); e != api.OK {
			for _, a := range append(ask(b, l, number(), number()), playing(b, y)) {
				if a.e != e || !a.zero {
					t.Fatalf("%v, %v: %v, not %v", b, l, a, e)
				}
			}
		}
	}
}

// The widest ranges that are valid: all sums and all numbers are possible.
func TestWidest(t *testing.T) {
	b := grow.Brood{Needs: list(20, 40, 60, 80), Weak: list(100, 100, 100, 100, 100), Number: to(0, 100)}
	for range 8 {
		b.Days = append(b.Days, day(0, 10, 0, 1000))
	}
	var l []grow.Seen
	for i := range 6 {
		l = append(l, seen(7, i%5, i%5, i, i))
	}
	a := answersOf(t, b, nil)
	for i := range b.Days {
		if a.stages[i] != to(0, (i+1)/2) || a.alive[i] != to(0, 100) {
			t.Errorf("%d: %v, %v", i, a.stages[i], a.alive[i])
		}
	}
	if a.days != to(7, 7) || a.surely {
		t.Errorf("Ripe: %v, %v", a.days, a.surely)
	}
	if set, e := grow.Leave(b, l); !slices.Equal(set, list(0, 1, 2, 3, 4)) || e != api.OK {
		t.Errorf("Leave: %v, %v", set, e)
	}
	for _, most := range []bool{false, true} {
		y, e := grow.Show(b, l[4:5], 6, most)
		want := 4
		if most {
			want = 100
		}
		if e != api.OK || !shows(b, l[4:5], y, 6, want) {
			t.Errorf("Show: %v, %v", y, e)
		}
	}
}
