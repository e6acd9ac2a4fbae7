package nest_test

import (
	"math"
	"reflect"
	"slices"
	"strconv"
	"testing"

	"nochez/api"
	"nochez/nest"
)

// Terms: the limits and the errors.
func TestLimitsAndErrors(t *testing.T) {
	if api.MaxNestPads != 8 || api.MaxNestJoins != 16 || api.MaxNestKinds != 3 || api.MaxNestYoung != 1000 || nest.None != -1 {
		t.Error("another limit")
	}
	for n, e := range []api.Errno{api.OK, api.ErrArg, api.ErrRange, api.ErrLimit, api.ErrForm, api.ErrName, api.ErrTwice, api.ErrNone, api.ErrState, api.ErrFail, api.ErrMiss, api.ErrFalse} {
		if int(e) != n || e.Error() != "lot "+strconv.Itoa(n) {
			t.Errorf("error %d: %d, %q", n, int(e), e.Error())
		}
	}
}

// results has what all calls return for these arguments.
func results(g nest.Grove, layout []int, pad int, spread [][]int) (all []any) {
	add := func(x ...any) { all = append(all, x...) }
	add(nest.CheckGrove(g))
	fits, e := nest.Fits(g)
	add(fits, e)
	ranges, e := nest.Bounds(g, layout)
	add(ranges, e)
	missed, overfull, e := nest.Faults(g, layout)
	add(missed, overfull, e)
	low, e := nest.Worst(g, layout, pad, false)
	add(low, e)
	high, e := nest.Worst(g, layout, pad, true)
	add(high, e)
	show, e := nest.Show(g, layout)
	add(show, e)
	best, nests, e := nest.Best(g)
	add(best, nests, e)
	spare, e := nest.Spare(g, layout)
	add(spare, e)
	apart, e := nest.Apart(g)
	add(apart, e)
	add(nest.ProveLayout(g, layout, pad), nest.ProveSpread(g, layout, spread), nest.ProveApart(g, layout))
	return all
}

// spoil writes into all memory of a slice, up to its capacity, and into that of its elements.
func spoil(v reflect.Value) {
	if v.Kind() != reflect.Slice {
		return
	}
	v = v.Slice(0, v.Cap())
	for i := range v.Len() {
		switch x := v.Index(i); x.Kind() {
		case reflect.Slice:
			spoil(x)
		case reflect.Int:
			x.SetInt(-77)
		case reflect.Bool:
			x.SetBool(!x.Bool())
		case reflect.Struct:
			x.Set(reflect.ValueOf(to(-77, -77)))
		}
	}
}

// show writes a result out, so that it can be compared later.
func show(v reflect.Value) (text string) {
	if v.Kind() != reflect.Slice {
		return ""
	}
	for i := range v.Len() {
		switch x := v.Index(i); x.Kind() {
		case reflect.Slice:
			text += "[" + show(x) + "]"
		case reflect.Int:
			text += " " + strconv.FormatInt(x.Int(), 10)
		case reflect.Bool:
			text += " " + strconv.FormatBool(x.Bool())
		case reflect.Struct:
			text += " " + strconv.FormatInt(x.Field(0).Int(), 10) + ".." + strconv.FormatInt(x.Field(1).Int(), 10)
		}
	}
	return text
}

// parts has the slices of a result: each of its lists, or itself.
func parts(x any) (all []reflect.Value) {
	v := reflect.ValueOf(x)
	if v.Kind() != reflect.Slice {
		return nil
	}
	if v.Type().Elem().Kind() != reflect.Slice {
		return []reflect.Value{v}
	}
	for i := range v.Len() {
		all = append(all, v.Index(i))
	}
	return all
}

// R4: nothing that is written into a result changes another one, another list of it, or an argument; arguments are not written to, nor is the memory behind them.
func TestMemory(t *testing.T) {
	r := chance(31)
	for range 200 {
		g := draw(r, wide)
		g.Pads = append(make([]nest.Pad, 0, 20), g.Pads...)
		g.Joins = append(make([]nest.Join, 0, 20), g.Joins...)
		g.Kinds = append(make([]nest.Kind, 0, 20), g.Kinds...)
		layout := append(make([]int, 0, 20), drawLayout(r, g)...)
		if best, _, e := nest.Best(g); e == api.OK && r.IntN(2) == 0 {
			layout = append(make([]int, 0, 20), best...)
		}
		spread, e := nest.Worst(g, layout, 0, true)
		if e != api.OK {
			t.Fatal(e)
		}
		pads, joins, kinds, places := slices.Clone(g.Pads[:20]), slices.Clone(g.Joins[:20]), slices.Clone(g.Kinds[:20]), slices.Clone(layout[:20])
		first := results(g, layout, 0, spread)
		before := show(reflect.ValueOf(spread))
		var lists []reflect.Value
		for _, x := range first {
			lists = append(lists, parts(x)...)
		}
		var texts []string
		for _, l := range lists {
			texts = append(texts, show(l))
		}
		for i, l := range lists {
			spoil(l)
			for k := i + 1; k < len(lists); k++ {
				if show(lists[k]) != texts[k] {
					t.Fatalf("%v, %v: writing into result %d changes result %d", g, layout, i, k)
				}
			}
		}
		if !slices.Equal(g.Pads[:20], pads) || !slices.Equal(g.Joins[:20], joins) || !slices.Equal(g.Kinds[:20], kinds) || !slices.Equal(layout[:20], places) || show(reflect.ValueOf(spread)) != before {
			t.Fatalf("%v, %v: an argument has been written to", g, layout)
		}
		spoil(reflect.ValueOf(spread))
	}
}

// A call with equal arguments returns equal results; those of Worst and Show too, since no random source is used.
func TestEqualArguments(t *testing.T) {
	tries(32, func(g nest.Grove, layout []int) {
		h := clone(g)
		first := results(g, layout, 0, nil)
		if again := results(h, slices.Clone(layout), 0, nil); !reflect.DeepEqual(first, again) {
			t.Fatalf("%v, %v: %v, and then %v", g, layout, first, again)
		}
	})
}

// R3: nil and a list without elements are the same.
func TestEmpty(t *testing.T) {
	one := nest.Grove{Pads: []nest.Pad{{Need: 0, Room: 20}}, Kinds: []nest.Kind{twenty()}}
	two := clone(one)
	two.Joins = []nest.Join{}
	if !reflect.DeepEqual(results(one, list(0), 0, nil), results(two, list(0), 0, [][]int{})) {
		t.Error("no joins, and nil")
	}
	if !nest.ProveSpread(one, list(no), [][]int{nil}) || !nest.ProveSpread(one, list(no), [][]int{{}}) {
		t.Error("ProveSpread of an empty list, and of nil")
	}
	if !nest.ProveApart(one, nil) || !nest.ProveApart(one, list()) {
		t.Error("ProveApart of an empty list, and of nil")
	}
	for _, layout := range [][]int{nil, {}} {
		if b, e := nest.Bounds(one, layout); len(b) != 0 || e != api.ErrRange {
			t.Errorf("Bounds of no layout: %v, %v", b, e)
		}
	}
}

// P7: joins lead to the same results in whatever order, and whichever way round, they are listed.
func TestAnyOrder(t *testing.T) {
	r := chance(33)
	tries(33, func(g nest.Grove, layout []int) {
		h := clone(g)
		r.Shuffle(len(h.Joins), func(i, j int) { h.Joins[i], h.Joins[j] = h.Joins[j], h.Joins[i] })
		for i, j := range h.Joins {
			if r.IntN(2) == 0 {
				h.Joins[i] = nest.Join{A: j.B, B: j.A}
			}
		}
		one, two := results(g, layout, 0, nil), results(h, layout, 0, nil)
		for i := range one {
			// Which spread Worst and Show return is not specified.
			if _, free := one[i].([][]int); !free && !reflect.DeepEqual(one[i], two[i]) {
				t.Fatalf("%v, %v: result %d is %v, in another order %v", g, layout, i, one[i], two[i])
			}
		}
	})
}

// P1 and R11: each call returns, whatever its arguments are, and each one has the error of a grove that is not valid, and nothing else (R2).
func TestWhateverTheArgumentsAre(t *testing.T) {
	r := chance(34)
	odd := list(0, 1, -1, 2, 3, 5, 7, 8, 9, 1000, 1001, -2, math.MaxInt, math.MinInt, math.MaxInt-1, math.MinInt+1)
	number := func() int {
		if r.IntN(4) > 0 {
			return odd[r.IntN(5)]
		}
		return odd[r.IntN(len(odd))]
	}
	numbers := func(most int) (l []int) {
		for range r.IntN(most + 1) {
			l = append(l, number())
		}
		return l
	}
	for range 20000 {
		var g nest.Grove
		for range r.IntN(10) {
			g.Pads = append(g.Pads, nest.Pad{Need: number(), Room: number()})
		}
		for range r.IntN(4) {
			g.Joins = append(g.Joins, nest.Join{A: number(), B: number()})
		}
		for range r.IntN(4) {
			g.Kinds = append(g.Kinds, nest.Kind{Young: number(), Own: to(number(), number()), Near: to(number(), number())})
		}
		if r.IntN(2) == 0 {
			g = draw(r, small)
		}
		var spread [][]int
		for range r.IntN(10) {
			spread = append(spread, numbers(10))
		}
		layout, pad := numbers(10), number()
		results(g, layout, pad, spread)
		with, without := ask(g, layout, pad)
		e := nest.CheckGrove(g)
		if e != api.OK && (!all(with.e, e) || !all(without.e, e) || !with.empty() || !without.empty()) {
			t.Fatalf("%v, %v, %d: %v, %v, not %v", g, layout, pad, with, without, e)
		}
	}
}

// The greatest numbers that are valid: everything is added up without loss.
func TestGreatestNumbers(t *testing.T) {
	g := full()
	for p := range g.Pads {
		g.Pads[p] = nest.Pad{Need: 1000, Room: 1000}
	}
	g.Kinds = []nest.Kind{{Young: 1000, Own: to(0, 1000), Near: to(0, 1000)}, {Young: 1000, Own: to(1000, 1000), Near: to(0, 1000)}}
	layout := list(0, 0, 0, 0, 0, 0, 0, 0)
	for p, b := range bounds(t, g, layout) {
		if want := to(0, 1000*(1+len(neighbours(g, p)))); b != want {
			t.Errorf("pad %d: %v, not %v", p, b, want)
		}
	}
	if s, e := nest.Show(g, layout); e != api.OK || !isSpread(g, layout, s) || !isGood(g, s) {
		t.Errorf("Show: %v, %v", s, e)
	}
	best, nests, e := nest.Best(g)
	if e != api.OK || !slices.Equal(best, list(1, 1, 1, 1, 1, 1, 1, 1)) || nests != 8 {
		t.Errorf("Best: %v, %d, %v", best, nests, e)
	}
}
