package prey_test

import (
	"math/rand/v2"
	"slices"
	"testing"

	"nochez/api"
	"nochez/nest"
	"nochez/prey"
)

// fields calls a function with fields of all sizes, and a plan for each one.
func fields(seed uint64, call func(r *rand.Rand, f prey.Field, p [][]int)) {
	r := chance(seed)
	for _, pads := range list(3, 5, 8) {
		for range 150 {
			f := draw(r, pads)
			call(r, f, drawPlan(r, f, 8))
		}
	}
}

// mayOf, lossOf and handsOf call a function that has no error here.
func mayOf(t *testing.T, f prey.Field, p [][]int) [][]int {
	l, e := prey.May(f, p)
	if e != api.OK || len(l) != len(p)+1 {
		t.Fatalf("May of %v, %v: %v, %v", f, p, l, e)
	}
	return l
}

func lossOf(t *testing.T, f prey.Field, p [][]int) int {
	n, path, e := prey.Loss(f, p)
	if e != api.OK || !prey.ProvePath(f, p, path, n) {
		t.Fatalf("Loss of %v, %v: %d, %v, %v", f, p, n, path, e)
	}
	return n
}

func handsOf(t *testing.T, f prey.Field) int {
	n, e := prey.Hands(f)
	if e != api.OK {
		t.Fatalf("Hands of %v: %v", f, e)
	}
	return n
}

// within reports whether all numbers of a list are in another one.
func within(l, other []int) bool {
	return !slices.ContainsFunc(l, func(n int) bool { return !slices.Contains(other, n) })
}

// allWithin reports whether each list is within the other one of the same week.
func allWithin(a, b [][]int) bool { return slices.EqualFunc(a, b, within) }

// both has the numbers of both lists, in increasing order.
func both(a, b []int) []int {
	all := slices.Concat(a, b)
	slices.Sort(all)
	return slices.Compact(all)
}

// stroll lets one moth go where it wants. It returns its path, and whether it has been found.
func stroll(r *rand.Rand, f prey.Field, p [][]int) (path []int, found bool) {
	at := f.Start[r.IntN(len(f.Start))]
	for _, picked := range p {
		path = append(path, at)
		var ways []int
		for pad := range f.Grove.Pads {
			if can(f, at, pad) {
				ways = append(ways, pad)
			}
		}
		at = ways[r.IntN(len(ways))]
		if slices.Contains(picked, at) {
			return path, true
		}
	}
	return path, false
}

// P3.7, P2, P3
func TestWhereverItGoes(t *testing.T) {
	found := 0
	fields(21, func(r *rand.Rand, f prey.Field, p [][]int) {
		if l, e := prey.Clear(f, between(r, 1, 8)); e == api.OK && r.IntN(2) == 0 {
			p = l
		}
		may, loss, clears := mayOf(t, f, p), lossOf(t, f, p), prey.ProveClear(f, p, 8)
		for range 40 {
			path, gone := stroll(r, f, p)
			for week, pad := range path {
				if !slices.Contains(may[week], pad) {
					t.Fatalf("%v, %v: %v is not within %v", f, p, path, may)
				}
			}
			if eaten(f, path) > loss || !prey.ProvePath(f, p, path, eaten(f, path)) {
				t.Fatalf("%v, %v: %v eats more than %d, or is no path", f, p, path, loss)
			}
			if clears && !gone {
				t.Fatalf("%v, %v clears the field, but not of %v", f, p, path)
			}
			if clears {
				found++
			}
		}
	})
	if found < 2000 {
		t.Errorf("only %d moths are found", found)
	}
}

// P3.8: no plan that is drawn is shorter, or as short and before the shortest one.
func TestNoShorterPlan(t *testing.T) {
	tried := 0
	fields(22, func(r *rand.Rand, f prey.Field, _ [][]int) {
		hands := min(handsOf(t, f)+r.IntN(3), 8)
		best, e := prey.Clear(f, hands)
		if e != api.OK || !prey.ProveClear(f, best, hands) {
			t.Fatalf("Clear of %v with %d: %v, %v", f, hands, best, e)
		}
		picks := weeks(len(f.Grove.Pads), hands)
		picks = picks[len(picks)/2:]
		for range 100 {
			var p [][]int
			for range between(r, 0, len(best)) {
				p = append(p, picks[r.IntN(len(picks))])
			}
			if !prey.ProveClear(f, p, hands) {
				continue
			}
			tried++
			if len(p) < len(best) || planBefore(p, best) {
				t.Fatalf("Clear of %v with %d: %v; better is %v", f, hands, best, p)
			}
		}
	})
	if tried < 1000 {
		t.Errorf("only %d plans clear the field", tried)
	}
}

// P3.9: no plan that is drawn has a smaller worst loss, or the same and is before the best one.
func TestNoSmallerLoss(t *testing.T) {
	equal := 0
	fields(23, func(r *rand.Rand, f prey.Field, _ [][]int) {
		hands, length := r.IntN(3), r.IntN(4)
		l, loss, e := prey.Best(f, hands, length)
		if e != api.OK || len(l) != length || worst(f, l) != loss || slices.ContainsFunc(l, func(week []int) bool { return len(week) > hands }) {
			t.Fatalf("Best of %v with %d, %d: %v, %d, %v", f, hands, length, l, loss, e)
		}
		picks := weeks(len(f.Grove.Pads), hands)
		for range 30 {
			var p [][]int
			for range length {
				p = append(p, picks[r.IntN(len(picks))])
			}
			n := lossOf(t, f, p)
			if n < loss || n == loss && planBefore(p, l) {
				t.Fatalf("Best of %v with %d, %d: %v, %d; better is %v", f, hands, length, l, loss, p)
			}
			if n == loss {
				equal++
			}
		}
	})
	if equal < 500 {
		t.Errorf("only %d plans are as good", equal)
	}
}

// P3.10
func TestMoreHands(t *testing.T) {
	fields(24, func(r *rand.Rand, f prey.Field, _ [][]int) {
		fewest, before := handsOf(t, f), [][]int(nil)
		for hands := range 9 {
			l, e := prey.Clear(f, hands)
			if (e == api.OK) != (hands >= fewest) || hands > fewest && len(l) > len(before) {
				t.Fatalf("Clear of %v with %d: %v, %v; with one hand fewer %v", f, hands, l, e, before)
			}
			before = l
		}
		length, pads := r.IntN(4), len(f.Grove.Pads)
		_, none, _ := prey.Best(f, 0, length)
		_, one, _ := prey.Best(f, 1, length)
		_, two, e := prey.Best(f, 2, length)
		if e != api.OK || one > none || two > one {
			t.Fatalf("Best of %v with 0, 1 and 2 hands, %d weeks: %d, %d, %d", f, length, none, one, two)
		}
		if l, e := prey.Clear(f, pads); e != api.OK || len(l) != 1 || !prey.ProveClear(f, plan(row(pads).Start), pads) {
			t.Fatalf("Clear of %v with all hands: %v, %v", f, l, e)
		}
	})
}

// P3.11
func TestMoreMoths(t *testing.T) {
	fields(25, func(r *rand.Rand, f prey.Field, p [][]int) {
		other := on(f, drawPads(r, len(f.Grove.Pads), 3)...)
		more := on(f, both(f.Start, other.Start)...)
		few, others, many := mayOf(t, f, p), mayOf(t, other, p), mayOf(t, more, p)
		if !allWithin(few, many) || !allWithin(others, many) {
			t.Fatalf("May of %v, %v: %v; from %v: %v", f, p, few, more.Start, many)
		}
		for week := range many {
			if !slices.Equal(both(few[week], others[week]), many[week]) {
				t.Fatalf("May of %v, %v: %v, %v are not %v together", f, p, few, others, many)
			}
		}
		if lossOf(t, f, p) > lossOf(t, more, p) || handsOf(t, f) > handsOf(t, more) {
			t.Fatalf("%v, %v: with fewer moths more is lost, or needed, than from %v", f, p, more.Start)
		}
	})
}

// P3.12
func TestMorePicked(t *testing.T) {
	less := 0
	fields(26, func(r *rand.Rand, f prey.Field, p [][]int) {
		if len(p) == 0 {
			return
		}
		more, week := slices.Clone(p), r.IntN(len(p))
		more[week] = both(p[week], drawPads(r, len(f.Grove.Pads), 3))
		if !allWithin(mayOf(t, f, more), mayOf(t, f, p)) || lossOf(t, f, more) > lossOf(t, f, p) {
			t.Fatalf("%v: %v is worse than %v", f, more, p)
		}
		if lossOf(t, f, more) < lossOf(t, f, p) {
			less++
		}
	})
	if less < 20 {
		t.Errorf("only %d plans are better", less)
	}
}

// P3.13
func TestMoreJoins(t *testing.T) {
	joins, wider := 0, 0
	fields(27, func(r *rand.Rand, f prey.Field, p [][]int) {
		a, b := r.IntN(len(f.Grove.Pads)), r.IntN(len(f.Grove.Pads))
		more := clone(f)
		more.Grove.Joins = append(more.Grove.Joins, nest.Join{A: a, B: b})
		if prey.CheckField(more) != api.OK {
			return
		}
		joins++
		few, many := mayOf(t, f, p), mayOf(t, more, p)
		if !allWithin(few, many) || lossOf(t, f, p) > lossOf(t, more, p) || handsOf(t, f) > handsOf(t, more) {
			t.Fatalf("%v, %v: with one more join %v, not %v", f, p, many, few)
		}
		if !same(few, many) {
			wider++
		}
	})
	if joins < 100 || wider < 40 {
		t.Errorf("only %d fields have one more join, and %d other lists", joins, wider)
	}
}

// P3.14
func TestOneWeekAfterTheOther(t *testing.T) {
	fields(28, func(r *rand.Rand, f prey.Field, p [][]int) {
		at := r.IntN(len(p) + 1)
		all, first := mayOf(t, f, p), mayOf(t, f, p[:at])
		rest := mayOf(t, on(f, first[at]...), p[at:])
		if !slices.Equal(rest[len(rest)-1], all[len(p)]) {
			t.Fatalf("May of %v, %v: %v; after %d weeks %v", f, p, all, at, rest)
		}
	})
}

// P3.15
func TestNoHands(t *testing.T) {
	far := 0
	fields(29, func(r *rand.Rand, f prey.Field, p [][]int) {
		reach := slices.Clone(f.Start)
		for week, l := range mayOf(t, f, make([][]int, len(p))) {
			if !slices.Equal(l, reach) {
				t.Fatalf("May of %v after %d weeks: %v, not %v", f, week, l, reach)
			}
			var further []int
			for _, j := range f.Grove.Joins {
				if slices.Contains(reach, j.A) {
					further = append(further, j.B)
				}
				if slices.Contains(reach, j.B) {
					further = append(further, j.A)
				}
			}
			if !within(further, reach) && week > 0 {
				far++
			}
			reach = both(reach, further)
		}
	})
	if far < 20 {
		t.Errorf("only %d times a moth comes further after the first week", far)
	}
}
