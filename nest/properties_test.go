package nest_test

import (
	"slices"
	"testing"

	"nochez/api"
	"nochez/nest"
)

// sizes are those of the groves on which the properties are tried.
func sizes() []size { return []size{small, large, wide} }

// tries calls a function with groves of all sizes, and a layout of each one.
func tries(seed uint64, call func(g nest.Grove, layout []int)) {
	r := chance(seed)
	for _, z := range sizes() {
		for range 150 {
			g := draw(r, z)
			call(g, drawLayout(r, g))
		}
	}
}

// bounds returns the bounds of a layout.
func bounds(t *testing.T, g nest.Grove, layout []int) []nest.Range {
	b, e := nest.Bounds(g, layout)
	if e != api.OK || len(b) != len(g.Pads) {
		t.Fatalf("Bounds of %v, %v: %v, %v", g, layout, b, e)
	}
	return b
}

// P1.8: each spread of a right layout is good. (TestBoundsAndFaultsByAllSpreads tries that each one is within the bounds.)
func TestForAllSpreads(t *testing.T) {
	r, right := chance(21), 0
	for range 1500 {
		g := draw(r, small)
		layout, _, e := nest.Best(g)
		if e != api.OK || count(layout) == 0 {
			continue
		}
		right++
		spreads(g, layout, func(s [][]int) {
			if !isGood(g, s) || !nest.ProveSpread(g, layout, s) {
				t.Fatalf("%v, %v: %v is not good", g, layout, s)
			}
		})
	}
	if right < 30 {
		t.Errorf("only %d layouts are right", right)
	}
}

// P1.9: both ends are the young of some spread, for large numbers too. (TestBoundsAndFaultsByAllSpreads tries that there are no gaps.)
func TestTheEnds(t *testing.T) {
	tries(22, func(g nest.Grove, layout []int) {
		if b := bounds(t, g, layout); !slices.Equal(b, ends(g, layout)) {
			t.Fatalf("Bounds of %v, %v: %v", g, layout, b)
		}
	})
}

// P1.10: no layout that is drawn is better than the best one; it is right itself.
func TestNoFewer(t *testing.T) {
	r := chance(23)
	tries(23, func(g nest.Grove, _ []int) {
		best, nests, e := nest.Best(g)
		if e == api.OK && (!isRight(g, ends(g, best)) || nests != count(best) || !nest.ProveLayout(g, best, nests) || nest.ProveLayout(g, best, nests-1)) {
			t.Fatalf("Best of %v: %v, %d", g, best, nests)
		}
		for range 50 {
			layout := drawLayout(r, g)
			if !nest.ProveLayout(g, layout, len(g.Pads)) {
				continue
			}
			if e != api.OK || count(layout) < nests || count(layout) == nests && slices.Compare(layout, best) < 0 {
				t.Fatalf("Best of %v: %v, %v; better is %v", g, best, e, layout)
			}
		}
	})
}

// P1.11
func TestTheProof(t *testing.T) {
	equal := 0
	tries(24, func(g nest.Grove, _ []int) {
		_, nests, e := nest.Best(g)
		pads, f := nest.Apart(g)
		if f != api.OK || !isApart(g, pads) || e == api.OK && nests < len(pads) {
			t.Fatalf("%v: %d nests, %v are apart", g, nests, pads)
		}
		if e == api.OK && nests == len(pads) {
			equal++
		}
	})
	if equal < 20 {
		t.Errorf("the proof shows only %d times that no fewer nests are enough", equal)
	}
}

// P1.12
func TestANestMore(t *testing.T) {
	r := chance(25)
	tries(25, func(g nest.Grove, layout []int) {
		pad, kind := r.IntN(len(g.Pads)), r.IntN(len(g.Kinds))
		if layout[pad] != no || !fits(g, pad, kind) {
			return
		}
		more := slices.Clone(layout)
		more[pad] = kind
		before, after := bounds(t, g, layout), bounds(t, g, more)
		for p := range before {
			if after[p].Lo < before[p].Lo || after[p].Hi < before[p].Hi {
				t.Fatalf("%v, %v: %v, with one more nest %v", g, layout, before, after)
			}
		}
		missed, _, _ := nest.Faults(g, layout)
		still, overfull, e := nest.Faults(g, more)
		_, first, _ := nest.Faults(g, layout)
		if e != api.OK || !within(still, missed) || !within(first, overfull) {
			t.Fatalf("%v, %v: %v can be missed, with one more nest %v", g, layout, missed, still)
		}
	})
}

// within reports whether all numbers of a list are in another one.
func within(l, other []int) bool {
	return !slices.ContainsFunc(l, func(n int) bool { return !slices.Contains(other, n) })
}

// P1.13
func TestEasier(t *testing.T) {
	r, same := chance(26), 0
	tries(26, func(g nest.Grove, _ []int) {
		_, nests, e := nest.Best(g)
		if e != api.OK {
			return
		}
		same++
		p := r.IntN(len(g.Pads))
		lower, higher, kinds := clone(g), clone(g), clone(g)
		lower.Pads[p].Need = r.IntN(g.Pads[p].Need + 1)
		higher.Pads[p].Room = between(r, g.Pads[p].Room, api.MaxNestYoung)
		kinds.Kinds = append(kinds.Kinds, draw(r, wide).Kinds[0])
		for _, h := range []nest.Grove{lower, higher, kinds} {
			if len(h.Kinds) > api.MaxNestKinds {
				continue
			}
			if l, n, e := nest.Best(h); e != api.OK || n > nests {
				t.Fatalf("Best of %v: %d; of %v: %v, %v", g, nests, h, l, e)
			}
		}
	})
	if same < 50 {
		t.Errorf("only %d groves have a best layout", same)
	}
}

// P1.14 and P4
func TestAllYoung(t *testing.T) {
	r := chance(27)
	tries(27, func(g nest.Grove, layout []int) {
		sum := 0
		for _, kind := range layout {
			if kind != no {
				sum += g.Kinds[kind].Young
			}
		}
		low, high := 0, 0
		for _, b := range bounds(t, g, layout) {
			low, high = low+b.Lo, high+b.Hi
		}
		if low > sum || high < sum {
			t.Fatalf("%v, %v: %d young, bounds %d to %d", g, layout, sum, low, high)
		}
		worst, e := nest.Worst(g, layout, r.IntN(len(g.Pads)), r.IntN(2) == 0)
		show, f := nest.Show(g, layout)
		for _, s := range [][][]int{worst, show} {
			all := 0
			for pad := range g.Pads {
				all += young(s, pad)
			}
			if len(s) > 0 && all != sum || e != api.OK || len(s) == 0 && f == api.OK {
				t.Fatalf("%v, %v: %d young, spread are %v", g, layout, sum, s)
			}
		}
	})
}

// P1.15
func TestOrder(t *testing.T) {
	r := chance(28)
	tries(28, func(g nest.Grove, layout []int) {
		at := r.Perm(len(g.Pads))
		h := nest.Grove{Pads: make([]nest.Pad, len(g.Pads)), Kinds: g.Kinds}
		moved := make([]int, len(g.Pads))
		for p := range g.Pads {
			h.Pads[at[p]], moved[at[p]] = g.Pads[p], layout[p]
		}
		for _, j := range g.Joins {
			h.Joins = append(h.Joins, nest.Join{A: at[j.B], B: at[j.A]})
		}
		before, after := bounds(t, g, layout), bounds(t, h, moved)
		for p := range before {
			if before[p] != after[at[p]] {
				t.Fatalf("%v, %v: %v; in the order %v: %v", g, layout, before, at, after)
			}
		}
		_, nests, e := nest.Best(g)
		_, others, f := nest.Best(h)
		one, _ := nest.Apart(g)
		two, _ := nest.Apart(h)
		if nests != others || e != f || len(one) != len(two) {
			t.Fatalf("%v: %d, %v; in the order %v: %d, %v", g, nests, e, at, others, f)
		}
	})
}

// P1.16
func TestGoodSpreads(t *testing.T) {
	none := 0
	tries(29, func(g nest.Grove, layout []int) {
		if best, _, e := nest.Best(g); e == api.OK {
			if s, e := nest.Show(g, best); e != api.OK || !isSpread(g, best, s) || !isGood(g, s) {
				t.Fatalf("Show of %v, %v: %v, %v", g, best, s, e)
			}
		}
		s, e := nest.Show(g, layout)
		missed, overfull, f := nest.Faults(g, layout)
		if f != api.OK || e != api.OK && len(missed)+len(overfull) == 0 {
			t.Fatalf("Show of %v, %v: %v, %v, but no pad can be missed or overfull", g, layout, s, e)
		}
		if e != api.OK {
			none++
		}
	})
	if none < 50 {
		t.Errorf("only %d layouts have no good spread", none)
	}
}
