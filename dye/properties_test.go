package dye_test

import (
	"math/rand/v2"
	"slices"
	"testing"

	"nochez/api"
	"nochez/dye"
)

// draws calls a function with works of all sizes, and strengths from which at most the wrong readings are off.
func draws(seed uint64, call func(r *rand.Rand, w dye.Works, s []int)) {
	r := chance(seed)
	for i, z := range []size{small, many, wide, large} {
		for range list(240, 160, 80, 240)[i] {
			w, s := draw(r, z)
			call(r, w, s)
		}
	}
}

// boundsFound returns the bounds of all lots, and whether there is a truth.
func boundsFound(t *testing.T, w dye.Works) ([]dye.Range, bool) {
	t.Helper()
	found, e := dye.Strengths(w)
	if e != api.OK && e != api.ErrFail || e == api.OK && len(found) != len(w.Lots) {
		t.Fatalf("Strengths of %v: %v, %v", w, found, e)
	}
	return found, e == api.OK
}

// agreeing calls a function with works of all sizes that have truths, and their bounds.
func agreeing(t *testing.T, seed uint64, call func(r *rand.Rand, w dye.Works, found []dye.Range)) {
	t.Helper()
	some := 0
	draws(seed, func(r *rand.Rand, w dye.Works, _ []int) {
		if found, can := boundsFound(t, w); can {
			some++
			call(r, w, found)
		}
	})
	if some < 400 {
		t.Errorf("only %d works have a truth", some)
	}
}

// differenceFound returns the bounds of a difference of works that have a truth.
func differenceFound(t *testing.T, w dye.Works, lot, other int) dye.Range {
	t.Helper()
	d, e := dye.Difference(w, lot, other)
	if e != api.OK {
		t.Fatalf("Difference of %v, %d, %d: %v, %v", w, lot, other, d, e)
	}
	return d
}

// ranksFound returns the ranges of all ranks of works that have a truth.
func ranksFound(t *testing.T, w dye.Works) []dye.Range {
	t.Helper()
	r, e := dye.Ranks(w)
	if e != api.OK || len(r) != len(w.Lots) {
		t.Fatalf("Ranks of %v: %v, %v", w, r, e)
	}
	return r
}

// P8.8, P2: whatever strengths are drawn, they are within all bounds if all readings hold for them.
func TestTrueStrengths(t *testing.T) {
	draws(21, func(r *rand.Rand, w dye.Works, s []int) {
		w.Readings = slices.DeleteFunc(w.Readings, func(x dye.Reading) bool { return !holds(x, s) })
		for len(w.Readings) < 8 && r.IntN(3) > 0 {
			w.Readings = append(w.Readings, drawReading(r, large, s, false))
		}
		found, can := boundsFound(t, w)
		if !can || !dye.ProveTruth(w, s) {
			t.Fatalf("%v: %v is no truth", w, s)
		}
		rank := ranksFound(t, w)
		for lot := range s {
			if !in(found[lot], s[lot]) || !in(rank[lot], rankOf(s, lot)) {
				t.Fatalf("%v: %v is not within %v, %v", w, s, found, rank)
			}
			for other := range s {
				if d := differenceFound(t, w, lot, other); !in(d, s[lot]-s[other]) {
					t.Fatalf("%v: the difference of %d and %d in %v is not within %v", w, lot, other, s, d)
				}
			}
		}
		if set, e := dye.Leave(w); len(set) > 0 || e != api.OK {
			t.Fatalf("Leave of %v: %v, %v", w, set, e)
		}
	})
}

// P8.4, P8.5, P5: each end of the bounds of large works, too, is shown by a truth, and proved by a chain; it cannot be beyond either.
func TestEndsAreShownAndProved(t *testing.T) {
	links := 0
	agreeing(t, 22, func(_ *rand.Rand, w dye.Works, found []dye.Range) {
		for lot, x := range found {
			for high, n := range map[bool]int{false: x.Lo, true: x.Hi} {
				s, e := dye.Show(w, lot, high)
				if e != api.OK || !hold(w, s) || !dye.ProveTruth(w, s) || s[lot] != n {
					t.Fatalf("Show of %v, %d, %v: %v, %v, not %d", w, lot, high, s, e, n)
				}
				c, e := dye.Prove(w, lot, high)
				if bound, valid := boundOf(w, lot, high, c); e != api.OK || !valid || bound != n || !dye.ProveChain(w, lot, high, n, c) {
					t.Fatalf("Prove of %v, %d, %v: %v, %v, not %d", w, lot, high, c, e, n)
				}
				if len(c.Links) > 2 {
					links++
				}
			}
		}
	})
	if links < 30 {
		t.Errorf("only %d chains of more than two links", links)
	}
}

// drawChain draws a chain of works, and returns the lot to which it leads.
func drawChain(r *rand.Rand, w dye.Works) (dye.Chain, int) {
	at := r.IntN(len(w.Lots))
	c := chain(at, -1)
	for i, x := range w.Readings {
		if x.Kind == dye.Scale && x.Lot == at && r.IntN(3) > 0 {
			c.First = i
		}
	}
	for range r.IntN(7) {
		i := r.IntN(max(1, len(w.Readings)))
		if i == len(w.Readings) || w.Readings[i].Kind == dye.Scale {
			continue
		}
		switch x := w.Readings[i]; at {
		case x.Lot:
			c.Links, at = append(c.Links, i), x.Other
		case x.Other:
			c.Links, at = append(c.Links, i), x.Lot
		}
	}
	return c, at
}

// P8.9
func TestWhicheverChain(t *testing.T) {
	tight, loose := 0, 0
	agreeing(t, 23, func(r *rand.Rand, w dye.Works, found []dye.Range) {
		for range 30 {
			c, lot := drawChain(r, w)
			for high, n := range map[bool]int{false: found[lot].Lo, true: found[lot].Hi} {
				bound, valid := boundOf(w, lot, high, c)
				if !valid || !dye.ProveChain(w, lot, high, bound, c) {
					t.Fatalf("%v: %v is no chain for %d, %v, %d", w, c, lot, high, bound)
				}
				if high && bound < n || !high && bound > n {
					t.Fatalf("%v: %v; but %v for %d, %v has %d", w, found, c, lot, high, bound)
				}
				if bound == n {
					tight++
				} else {
					loose++
				}
			}
		}
	})
	if tight < 1000 || loose < 1000 {
		t.Errorf("the bounds of %d chains are reached, those of %d are not", tight, loose)
	}
}

// P8.10
func TestFurtherReadingOfAnEnd(t *testing.T) {
	beyond := 0
	agreeing(t, 24, func(r *rand.Rand, w dye.Works, found []dye.Range) {
		if len(w.Readings) == 8 {
			w = without(w, list(r.IntN(8)))
			found, _ = boundsFound(t, w)
		}
		for lot, x := range found {
			for n := x.Lo; n <= x.Hi; n += max(1, x.Hi-x.Lo) {
				more, can := boundsFound(t, with(w, scale(lot, n, 0)))
				if !can || more[lot] != to(n, n) {
					t.Fatalf("%v: %v; if %d is %d: %v, %v", w, found, lot, n, more, can)
				}
			}
			for _, n := range list(x.Lo-1, x.Hi+1) {
				if n < 0 || n > 100 {
					continue
				}
				beyond++
				if more, can := boundsFound(t, with(w, scale(lot, n, 0))); can {
					t.Fatalf("%v: %v; but %d can be %d: %v", w, found, lot, n, more)
				}
			}
		}
	})
	if beyond < 1000 {
		t.Errorf("only %d strengths beyond an end", beyond)
	}
}

// P8.11
func TestOneMoreReading(t *testing.T) {
	more, narrower, lower := 0, 0, 0
	draws(25, func(r *rand.Rand, w dye.Works, s []int) {
		if len(w.Readings) == 8 {
			w = without(w, list(r.IntN(8)))
		}
		y := with(w, drawReading(r, large, s, r.IntN(2) == 0))
		one, e := dye.Leave(w)
		two, f := dye.Leave(y)
		if len(two) < len(one) || e != api.OK || f != api.OK {
			t.Fatalf("Leave of %v: %v, %v; of %v: %v, %v", w, one, e, y, two, f)
		}
		if len(two) > len(one) {
			more++
		}
		found, can := boundsFound(t, w)
		again, still := boundsFound(t, y)
		if !still {
			return
		}
		if !can {
			t.Fatalf("%v has no truth, but %v has some", w, y)
		}
		ranks, ranksAgain := ranksFound(t, w), ranksFound(t, y)
		for lot := range w.Lots {
			if !inside(again[lot], found[lot]) || !inside(ranksAgain[lot], ranks[lot]) {
				t.Fatalf("%v: %v, %v; %v: %v, %v", w, found, ranks, y, again, ranksAgain)
			}
			for other := range w.Lots {
				if one, two := differenceFound(t, w, lot, other), differenceFound(t, y, lot, other); !inside(two, one) {
					t.Fatalf("Difference of %v, %d, %d: %v; %v: %v", w, lot, other, one, y, two)
				}
			}
		}
		if !slices.Equal(found, again) {
			narrower++
		}
		if !slices.Equal(ranks, ranksAgain) {
			lower++
		}
	})
	if more < 50 || narrower < 100 || lower < 30 {
		t.Errorf("%d have to leave more out, %d have narrower bounds, %d have narrower ranks", more, narrower, lower)
	}
}

// sameBounds checks that all bounds are the same in two works, or that both have no truth.
func sameBounds(t *testing.T, w, y dye.Works) bool {
	t.Helper()
	found, can := boundsFound(t, w)
	again, still := boundsFound(t, y)
	if can != still || !slices.Equal(found, again) {
		t.Fatalf("%v: %v, %v; %v: %v, %v", w, found, can, y, again, still)
	}
	if !can {
		return false
	}
	if one, two := ranksFound(t, w), ranksFound(t, y); !slices.Equal(one, two) {
		t.Fatalf("Ranks of %v: %v; of %v: %v", w, one, y, two)
	}
	if one, two := differencesFound(t, w), differencesFound(t, y); !slices.EqualFunc(one, two, slices.Equal) {
		t.Fatalf("Difference of %v: %v; of %v: %v", w, one, y, two)
	}
	return true
}

// turn exchanges the lots of a comparison.
func turn(x dye.Reading) dye.Reading {
	if x.Kind == dye.Scale {
		return x
	}
	return compare(x.Other, x.Lot, -x.Value, x.Error)
}

// P8.12
func TestTurned(t *testing.T) {
	draws(26, func(r *rand.Rand, w dye.Works, _ []int) {
		y := clone(w)
		for i, x := range y.Readings {
			if r.IntN(2) == 0 {
				y.Readings[i] = turn(x)
			}
		}
		one, _ := dye.Leave(w)
		two, _ := dye.Leave(y)
		if !slices.Equal(one, two) {
			t.Fatalf("Leave of %v: %v; of %v: %v", w, one, y, two)
		}
		if !sameBounds(t, w, y) {
			return
		}
		all := differencesFound(t, w)
		for lot := range all {
			for other := range all {
				if one, two := all[lot][other], all[other][lot]; one != to(-two.Hi, -two.Lo) {
					t.Fatalf("Difference of %v, %d, %d: %v, and %v", w, lot, other, one, two)
				}
			}
		}
		one1, width1, _ := dye.Help(w, 3)
		one2, width2, _ := dye.Help(y, 3)
		if one1 != one2 || width1 != width2 {
			t.Fatalf("Help of %v: %d, %d; of %v: %d, %d", w, one1, width1, y, one2, width2)
		}
	})
}

// differencesFound returns the bounds of all differences of works that have a truth.
func differencesFound(t *testing.T, w dye.Works) (all [][]dye.Range) {
	t.Helper()
	for lot := range w.Lots {
		var l []dye.Range
		for other := range w.Lots {
			l = append(l, differenceFound(t, w, lot, other))
		}
		all = append(all, l)
	}
	return all
}

// P8.13
func TestThreeLots(t *testing.T) {
	less := 0
	agreeing(t, 27, func(_ *rand.Rand, w dye.Works, _ []dye.Range) {
		all := differencesFound(t, w)
		for one := range all {
			for two := range all {
				for three := range all {
					direct, sum := all[one][two].Hi, all[one][three].Hi+all[three][two].Hi
					if direct > sum {
						t.Fatalf("%v: of %d and %d at most %d, but %d by %d", w, one, two, direct, sum, three)
					}
					if direct < sum {
						less++
					}
				}
			}
		}
	})
	if less < 1000 {
		t.Errorf("only %d differences are less", less)
	}
}

// P8.14
func TestRanksByDifferences(t *testing.T) {
	open := 0
	agreeing(t, 28, func(_ *rand.Rand, w dye.Works, _ []dye.Range) {
		for lot, rank := range ranksFound(t, w) {
			surely, can := 0, 0
			for other := range w.Lots {
				d := differenceFound(t, w, other, lot)
				if d.Lo > 0 {
					surely++
				}
				if d.Hi > 0 {
					can++
				}
			}
			if rank != to(surely, can) {
				t.Fatalf("Ranks of %v: %v for %d, not %d to %d", w, rank, lot, surely, can)
			}
			if surely < can {
				open++
			}
		}
	})
	if open < 300 {
		t.Errorf("only %d ranks are open", open)
	}
}

// leastOf returns the greatest width of works with a further reading of a lot, whatever Value it has.
func leastOf(t *testing.T, w dye.Works, bounds dye.Range, lot, err int) int {
	t.Helper()
	most := 0
	for n := bounds.Lo; n <= bounds.Hi; n++ {
		found, can := boundsFound(t, with(w, scale(lot, n, err)))
		if !can {
			t.Fatalf("%v has no truth if %d is read as %d", w, lot, n)
		}
		most = max(most, widthOf(found))
	}
	return most
}

// P8.15, P5: all Values of all lots are tried, by the bounds of the works with them.
func TestHelpIsBest(t *testing.T) {
	later := 0
	times := 0
	agreeing(t, 29, func(r *rand.Rand, w dye.Works, found []dye.Range) {
		if times++; times%4 > 0 {
			return
		}
		if len(w.Readings) == 8 {
			w = without(w, list(r.IntN(8)))
			found, _ = boundsFound(t, w)
		}
		err := list(0, 1, 5, r.IntN(101))[r.IntN(4)]
		lot, width, e := dye.Help(w, err)
		if e != api.OK {
			t.Fatalf("Help of %v with %d: %d, %d, %v", w, err, lot, width, e)
		}
		for other := range w.Lots {
			most := leastOf(t, w, found[other], other, err)
			if other == lot && most != width || other < lot && most <= width || most < width {
				t.Fatalf("Help of %v with %d: %d, %d; but %d leaves %d", w, err, lot, width, other, most)
			}
		}
		if lot > 0 {
			later++
		}
	})
	if later < 30 {
		t.Errorf("only %d times another lot than the first one is best", later)
	}
}

// P8.16, P6: any set is tried, by the package's own word for a truth.
func TestLeftOut(t *testing.T) {
	var lengths [9]int
	draws(30, func(_ *rand.Rand, w dye.Works, _ []int) {
		set, e := dye.Leave(w)
		if e != api.OK {
			t.Fatalf("Leave of %v: %v, %v", w, set, e)
		}
		lengths[len(set)]++
		for _, other := range sets(len(w.Readings)) {
			_, can := boundsFound(t, without(w, other))
			if slices.Equal(other, set) {
				if !can {
					t.Fatalf("%v: %v cannot be left out", w, set)
				}
				return
			}
			if can {
				t.Fatalf("Leave of %v: %v, but %v can be left out", w, set, other)
			}
		}
	})
	if lengths[0] < 300 || lengths[1] < 100 || lengths[2] < 30 || lengths[3] < 10 {
		t.Errorf("so many sets of each length: %v", lengths)
	}
}

// moved puts a list into another order: what is at i comes to order[i].
func moved[T any](l []T, order []int) []T {
	m := make([]T, len(l))
	for i, k := range order {
		m[k] = l[i]
	}
	return m
}

// P7: readings lead to the same ranges, and to the same smallest numbers, in any order.
func TestOrderOfReadings(t *testing.T) {
	draws(31, func(r *rand.Rand, w dye.Works, _ []int) {
		y := works(w.Lots, moved(w.Readings, r.Perm(len(w.Readings)))...)
		one, _ := dye.Leave(w)
		two, _ := dye.Leave(y)
		if len(one) != len(two) {
			t.Fatalf("Leave of %v: %v; of %v: %v", w, one, y, two)
		}
		if !sameBounds(t, w, y) {
			return
		}
		err := r.IntN(10)
		lot, width, _ := dye.Help(w, err)
		again, still, _ := dye.Help(y, err)
		if lot != again || width != still {
			t.Fatalf("Help of %v with %d: %d, %d; of %v: %d, %d", w, err, lot, width, y, again, still)
		}
	})
}

// Lots in another order have the same bounds, ranks, and smallest set; what the best one leaves is the same.
func TestOrderOfLots(t *testing.T) {
	draws(32, func(r *rand.Rand, w dye.Works, _ []int) {
		order := r.Perm(len(w.Lots))
		y := works(moved(w.Lots, order), slices.Clone(w.Readings)...)
		for i, x := range y.Readings {
			y.Readings[i].Lot = order[x.Lot]
			if x.Kind == dye.Compare {
				y.Readings[i].Other = order[x.Other]
			}
		}
		one, _ := dye.Leave(w)
		two, _ := dye.Leave(y)
		found, can := boundsFound(t, w)
		again, still := boundsFound(t, y)
		if !slices.Equal(one, two) || can != still || can && !slices.Equal(moved(found, order), again) {
			t.Fatalf("%v: %v, %v; in the order %v: %v, %v", w, one, found, order, two, again)
		}
		if !can {
			return
		}
		if a, b := moved(ranksFound(t, w), order), ranksFound(t, y); !slices.Equal(a, b) {
			t.Fatalf("%v: %v; in the order %v: %v", w, a, order, b)
		}
		_, a, _ := dye.Help(w, 2)
		_, b, _ := dye.Help(y, 2)
		if a != b {
			t.Fatalf("Help of %v: %d; in the order %v: %d", w, a, order, b)
		}
	})
}
