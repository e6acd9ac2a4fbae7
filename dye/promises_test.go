package dye_test

import (
	"math"
	"math/rand/v2"
	"slices"
	"testing"

	"nochez/api"
	"nochez/dye"
)

// P8.1
func TestProveTruth(t *testing.T) {
	one := works(row(to(10, 20)))
	for _, y := range []struct {
		name string
		w    dye.Works
		s    []int
		want bool
	}{
		{"a truth", three(), list(50, 65, 35), true},
		{"the smallest strengths", three(), list(40, 50, 20), true},
		{"the greatest strengths", three(), list(60, 80, 53), true},
		{"less than the scale reads", three(), list(39, 54, 24), false},
		{"more than the scale reads", three(), list(61, 76, 46), false},
		{"too much more", three(), list(50, 71, 41), false},
		{"just as much more", three(), list(50, 70, 40), true},
		{"just as little more", three(), list(50, 60, 30), true},
		{"too little more", three(), list(50, 59, 29), false},
		{"too little less", three(), list(50, 65, 39), false},
		{"just as little less", three(), list(50, 65, 38), true},
		{"just as much less", three(), list(50, 65, 32), true},
		{"too much less", three(), list(50, 65, 31), false},
		{"below what is known before", three(), list(40, 50, 19), false},
		{"above what is known before", works(row(to(0, 100), to(20, 60))), list(0, 61), false},
		{"no strengths", three(), nil, false},
		{"too few strengths", three(), list(50, 65), false},
		{"too few strengths, no readings", works(full(2)), list(5), false},
		{"no strengths, no readings", works(full(1)), nil, false},
		{"too many strengths, no readings", works(full(2)), list(5, 5, 0), false},
		{"too many strengths", three(), list(50, 65, 35, 0), false},
		{"a strength of water, too", works(full(6)), list(0, 0, 0, 0, 0, 0, 0), false},
		{"the scale alone", works(full(1), scale(0, 5, 5)), list(10), true},
		{"below 0 by its error", works(full(1), scale(0, 0, 5)), list(0), true},
		{"above 100 by its error", works(full(1), scale(0, 100, 5)), list(100), true},
		{"the first of two readings is wrong", works(full(1), scale(0, 4, 5), scale(0, 5, 5)), list(10), false},
		{"the last of two readings is wrong", works(full(1), scale(0, 5, 5), scale(0, 4, 5)), list(10), false},
		{"a comparison is of Lot less Other", works(full(2), compare(0, 1, 100, 0)), list(100, 0), true},
		{"a comparison is not of Other less Lot", works(full(2), compare(0, 1, 100, 0)), list(0, 100), false},
		{"a Value below 0", works(full(2), compare(0, 1, -100, 0)), list(0, 100), true},
		{"all is allowed", works(full(2), compare(0, 1, -100, 100), compare(0, 1, 0, 100), scale(1, 50, 50)), list(0, 100), true},
		{"no readings", one, list(10), true},
		{"no readings, the other end", one, list(20), true},
		{"no readings, too little", one, list(9), false},
		{"no readings, too much", one, list(21), false},
		{"six lots", works(full(6), compare(5, 0, 1, 0)), list(1, 5, 4, 3, 2, 2), true},
		{"six lots, the last one is wrong", works(full(6), compare(5, 0, 1, 0)), list(1, 5, 4, 3, 2, 3), false},
		{"the greatest numbers", works(full(2), compare(0, 1, 0, 100)), list(math.MaxInt, math.MinInt), false},
		{"the smallest numbers", works(full(2), scale(0, 0, 100)), list(math.MinInt, math.MaxInt), false},
		{"readings that contradict each other", three(scale(2, 60, 2)), list(60, 80, 53), false},
		{"works that are not valid", dye.Works{}, nil, false},
		{"works that are too large", works(full(7)), list(0, 0, 0, 0, 0, 0, 0), false},
	} {
		if dye.ProveTruth(y.w, y.s) != y.want {
			t.Errorf("%s: ProveTruth of %v, %v: not %v", y.name, y.w, y.s, y.want)
		}
	}
}

// tries calls a function with works of which all truths can be tried, and with these.
func tries(seed uint64, times int, call func(r *rand.Rand, w dye.Works, all [][]int)) {
	r := chance(seed)
	for i, z := range []size{small, many, wide} {
		for range times / list(1, 2, 4)[i] {
			w, _ := draw(r, z)
			call(r, w, truths(w))
		}
	}
}

// P8.1: ProveTruth holds for just the truths of the reference.
func TestProveTruthByAllLists(t *testing.T) {
	yes, no := 0, 0
	r := chance(11)
	for range 400 {
		w, _ := draw(r, small)
		var around []dye.Range
		for _, x := range w.Lots {
			around = append(around, to(x.Lo-1, x.Hi+1))
		}
		numbers(around, func(s []int) {
			want := hold(w, s)
			for i, x := range w.Lots {
				want = want && in(x, s[i])
			}
			if dye.ProveTruth(w, s) != want {
				t.Fatalf("ProveTruth of %v, %v: not %v", w, s, want)
			}
			if want {
				yes++
			} else {
				no++
			}
		})
	}
	if yes < 5000 || no < 5000 {
		t.Errorf("%d are truths, %d are not", yes, no)
	}
}

// checkShow checks what is shown for each lot by all truths, and what is proved.
func checkShow(t *testing.T, w dye.Works, all [][]int, bounds []dye.Range) {
	t.Helper()
	for i, x := range bounds {
		for _, high := range []bool{false, true} {
			due, beyond := x.Lo, x.Lo+1
			if high {
				due, beyond = x.Hi, x.Hi-1
			}
			s, e := dye.Show(w, i, high)
			if e != api.OK || !slices.ContainsFunc(all, func(other []int) bool { return slices.Equal(s, other) }) || s[i] != due {
				t.Fatalf("Show of %v, %d, %v: %v, %v, not %d", w, i, high, s, e, due)
			}
			c, e := dye.Prove(w, i, high)
			if n, valid := boundOf(w, i, high, c); e != api.OK || !valid || n != due {
				t.Fatalf("Prove of %v, %d, %v: %v, %v, not %d", w, i, high, c, e, due)
			}
			if !dye.ProveChain(w, i, high, due, c) || dye.ProveChain(w, i, high, beyond, c) {
				t.Fatalf("ProveChain of %v, %d, %v, %v: not just %d", w, i, high, c, due)
			}
		}
	}
}

// checkBounds checks all bounds of works that have truths.
func checkBounds(t *testing.T, w dye.Works, all [][]int) {
	t.Helper()
	bounds := strengthsOf(w, all)
	if s, e := dye.Strengths(w); !slices.Equal(s, bounds) || e != api.OK {
		t.Fatalf("Strengths of %v: %v, %v, not %v", w, s, e, bounds)
	}
	var want []dye.Range
	for lot := range w.Lots {
		want = append(want, boundsOf(all, func(s []int) int { return rankOf(s, lot) }))
		for other := range w.Lots {
			due := boundsOf(all, func(s []int) int { return s[lot] - s[other] })
			if d, e := dye.Difference(w, lot, other); d != due || e != api.OK {
				t.Fatalf("Difference of %v, %d, %d: %v, %v, not %v", w, lot, other, d, e, due)
			}
		}
	}
	if r, e := dye.Ranks(w); !slices.Equal(r, want) || e != api.OK {
		t.Fatalf("Ranks of %v: %v, %v, not %v", w, r, e, want)
	}
	checkShow(t, w, all, bounds)
}

// P8.2 to P8.5, P2: all truths are tried.
func TestBoundsByAllTruths(t *testing.T) {
	some, none := 0, 0
	tries(12, 1200, func(_ *rand.Rand, w dye.Works, all [][]int) {
		if len(all) > 0 {
			some++
			checkBounds(t, w, all)
			return
		}
		none++
		for i, a := range ask(w, asked{}) {
			if i != callCheck && i != callLeave && (a.e != api.ErrFail || !a.zero) {
				t.Fatalf("%v has no truth: %v", w, a)
			}
		}
	})
	if some < 800 || none < 200 {
		t.Errorf("%d works have truths, %d have none", some, none)
	}
}

// P8.2, by hand
func TestStrengths(t *testing.T) {
	for _, y := range []struct {
		name string
		w    dye.Works
		want []dye.Range
	}{
		{"no readings", works(row(to(0, 10), to(5, 5))), row(to(0, 10), to(5, 5))},
		{"a scale", works(full(1), scale(0, 50, 10)), row(to(40, 60))},
		{"a scale, near 0", works(full(1), scale(0, 5, 10)), row(to(0, 15))},
		{"a scale, near 100", works(full(1), scale(0, 95, 10)), row(to(85, 100))},
		{"a scale that tells nothing", works(full(1), scale(0, 50, 50)), row(to(0, 100))},
		{"two scales", works(full(1), scale(0, 50, 10), scale(0, 65, 10)), row(to(55, 60))},
		{"two scales, just together", works(full(1), scale(0, 50, 10), scale(0, 70, 10)), row(to(60, 60))},
		{"a comparison", works(full(2), compare(1, 0, 30, 10)), row(to(0, 80), to(20, 100))},
		{"a comparison below 0", works(full(2), compare(1, 0, -30, 10)), row(to(20, 100), to(0, 80))},
		{"a comparison with what is known before", works(row(to(20, 30), to(0, 100)), compare(1, 0, 10, 5)), row(to(20, 30), to(25, 45))},
		{"of what is known before", works(row(to(20, 30), to(0, 100)), compare(0, 1, 10, 5)), row(to(20, 30), to(5, 25))},
		{"the other way round", works(row(to(0, 100), to(20, 30)), compare(1, 0, 10, 5)), row(to(5, 25), to(20, 30))},
		{"a comparison that tells nothing", works(full(2), compare(1, 0, 0, 100)), row(to(0, 100), to(0, 100))},
		{"two comparisons", works(full(2), compare(1, 0, 30, 10), compare(0, 1, -45, 10)), row(to(0, 65), to(35, 100))},
		{"a further reading of the last lot", three(scale(2, 40, 0)), row(to(47, 60), to(67, 73), to(40, 40))},
		{"a further reading of the first lot", three(scale(0, 60, 0)), row(to(60, 60), to(70, 80), to(37, 53))},
		{"a ring", works(full(3), compare(1, 0, 10, 2), compare(2, 1, 10, 2), compare(0, 2, -24, 0), scale(0, 5, 0)), row(to(5, 5), to(17, 17), to(29, 29))},
		{"a ring with room", works(full(3), compare(1, 0, 10, 2), compare(2, 1, 10, 2), compare(0, 2, -23, 0), scale(0, 5, 0)), row(to(5, 5), to(16, 17), to(28, 28))},
		{"six lots in a row", works(full(6), scale(0, 50, 1), compare(1, 0, 1, 1), compare(2, 1, 1, 1), compare(3, 2, 1, 1), compare(4, 3, 1, 1), compare(5, 4, 1, 1)), row(to(49, 51), to(49, 53), to(49, 55), to(49, 57), to(49, 59), to(49, 61))},
		{"six lots in a row, backwards", works(full(6), compare(0, 1, 1, 1), compare(1, 2, 1, 1), compare(2, 3, 1, 1), compare(3, 4, 1, 1), compare(4, 5, 1, 1), scale(5, 50, 1)), row(to(49, 61), to(49, 59), to(49, 57), to(49, 55), to(49, 53), to(49, 51))},
		{"from both ends", works(full(3), scale(0, 10, 0), compare(1, 0, 10, 5), compare(2, 1, 10, 5), scale(2, 36, 0)), row(to(10, 10), to(21, 25), to(36, 36))},
		{"the shorter way", works(full(3), scale(0, 50, 0), compare(1, 0, 0, 1), compare(2, 1, 0, 1), compare(2, 0, 0, 3)), row(to(50, 50), to(49, 51), to(48, 52))},
		{"the direct way", works(full(3), scale(0, 50, 0), compare(1, 0, 0, 1), compare(2, 1, 0, 2), compare(2, 0, 0, 2)), row(to(50, 50), to(49, 51), to(48, 52))},
		{"lots that are equally strong", works(row(to(0, 100), to(30, 80)), compare(0, 1, 0, 0)), row(to(30, 80), to(30, 80))},
	} {
		t.Run(y.name, func(t *testing.T) { strengths(t, y.w, y.want...) })
	}
}

// P8.2, by hand
func TestDifference(t *testing.T) {
	differs(t, works(row(to(0, 10), to(5, 5), to(5, 20))), 0, 1, to(-5, 5))
	differs(t, works(row(to(0, 10), to(5, 5), to(5, 20))), 0, 2, to(-20, 5))
	differs(t, works(full(2)), 0, 1, to(-100, 100))
	differs(t, three(), 0, 0, to(0, 0))
	differs(t, works(row(to(5, 9))), 0, 0, to(0, 0))
	differs(t, works(full(3), compare(0, 1, 10, 1), compare(1, 2, 20, 2)), 0, 2, to(27, 33))
	differs(t, works(full(3), compare(0, 1, 10, 1), compare(2, 1, 20, 2)), 0, 2, to(-13, -7))
	differs(t, works(full(2), scale(0, 20, 5), scale(1, 40, 5)), 1, 0, to(10, 30))
	differs(t, works(full(2), scale(0, 20, 5), scale(1, 40, 5), compare(1, 0, 0, 15)), 1, 0, to(10, 15))
	differs(t, works(full(2), scale(0, 20, 5), scale(1, 40, 5), compare(1, 0, 0, 15)), 0, 0, to(0, 0))
	differs(t, works(row(to(90, 100), to(0, 100)), compare(1, 0, 20, 20)), 1, 0, to(0, 10))
	differs(t, works(full(6), compare(5, 0, 100, 0)), 5, 0, to(100, 100))
	differs(t, works(full(6), compare(5, 0, 100, 0)), 4, 0, to(0, 100))
	differs(t, works(full(6), compare(5, 0, 100, 0)), 4, 3, to(-100, 100))
}

// P8.3, by hand
func TestRanks(t *testing.T) {
	ranks(t, works(full(1)), to(0, 0))
	ranks(t, works(full(2)), to(0, 1), to(0, 1))
	ranks(t, works(full(6)), slices.Repeat(row(to(0, 5)), 6)...)
	ranks(t, works(row(to(0, 10), to(5, 5), to(5, 20))), to(0, 2), to(0, 2), to(0, 1))
	ranks(t, works(full(2), compare(0, 1, 0, 0)), to(0, 0), to(0, 0))
	ranks(t, works(full(2), compare(0, 1, 1, 1)), to(0, 0), to(0, 1))
	ranks(t, works(full(2), compare(0, 1, 2, 1)), to(0, 0), to(1, 1))
	ranks(t, works(full(2), compare(0, 1, -1, 1)), to(0, 1), to(0, 0))
	ranks(t, works(row(to(0, 10), to(10, 20), to(11, 20))), to(1, 2), to(0, 1), to(0, 1))
	ranks(t, works(row(to(7, 7), to(7, 7), to(8, 8), to(9, 9))), to(2, 2), to(2, 2), to(1, 1), to(0, 0))
	ranks(t, works(row(to(0, 0), to(0, 100), to(0, 100)), compare(1, 2, 0, 0)), to(0, 2), to(0, 0), to(0, 0))
	ranks(t, three(scale(2, 40, 0)), to(1, 1), to(0, 0), to(2, 2))
}

// P8.4: what is shown holds, even where a lot can only be at its end if others are not at theirs on the other side.
func TestShow(t *testing.T) {
	for _, w := range []dye.Works{three(), three(scale(2, 40, 0)), works(full(6)), works(full(2), compare(0, 1, 0, 0)), works(full(3), compare(0, 1, 30, 0), compare(2, 1, 10, 20)), works(row(to(5, 9)))} {
		bounds, _ := dye.Strengths(w)
		for lot := range w.Lots {
			for high, due := range map[bool]int{false: bounds[lot].Lo, true: bounds[lot].Hi} {
				if s, e := dye.Show(w, lot, high); e != api.OK || len(s) != len(w.Lots) || s[lot] != due || !hold(w, s) {
					t.Errorf("Show of %v, %d, %v: %v, %v", w, lot, high, s, e)
				}
			}
		}
	}
}

// proofs are works for which it matters which chain is followed, and where it ends.
func proofs() []dye.Works {
	ring := []dye.Reading{compare(0, 1, 0, 0), compare(1, 2, 0, 0), compare(2, 0, 0, 0)}
	return []dye.Works{
		three(), works(full(3), ring...), works(full(3), append(ring, scale(1, 50, 5))...), works(full(3), append(ring, scale(1, 50, 5), scale(2, 50, 5), scale(0, 50, 5))...),
		works(full(2), compare(0, 1, 100, 0)), works(full(2), compare(0, 1, 0, 0), compare(0, 1, 0, 0), compare(1, 0, 0, 0)),
		works(full(6), scale(0, 50, 1), compare(1, 0, 1, 1), compare(2, 1, 1, 1), compare(3, 2, 1, 1), compare(4, 3, 1, 1), compare(5, 4, 1, 1)),
		works(full(6), compare(0, 1, 1, 1), compare(1, 2, 1, 1), compare(2, 3, 1, 1), compare(3, 4, 1, 1), compare(4, 5, 1, 1), scale(5, 50, 1)),
		works(full(3), scale(0, 10, 0), compare(1, 0, 10, 5), compare(2, 1, 10, 5), scale(2, 36, 0)), works(row(to(5, 9))), works(row(to(5, 9)), scale(0, 9, 0)),
		works(full(6), compare(1, 0, 20, 0), compare(2, 1, 20, 0), compare(3, 2, 20, 0), compare(4, 3, 20, 0), compare(5, 4, 20, 0)),
	}
}

// P8.5, P5: the bound of the chain is just the end.
func TestProve(t *testing.T) {
	for _, w := range proofs() {
		bounds, _ := dye.Strengths(w)
		for lot := range w.Lots {
			for high, due := range map[bool]int{false: bounds[lot].Lo, true: bounds[lot].Hi} {
				c, e := dye.Prove(w, lot, high)
				if n, valid := boundOf(w, lot, high, c); e != api.OK || !valid || n != due {
					t.Errorf("Prove of %v, %d, %v: %v, %v, not %d", w, lot, high, c, e, due)
				}
			}
		}
	}
}

// P8.5, by hand
func TestProveChain(t *testing.T) {
	hooked := three(scale(1, 60, 5), compare(1, 2, 28, 0), scale(0, 50, 11))
	for _, y := range []struct {
		name  string
		w     dye.Works
		lot   int
		high  bool
		bound int
		c     dye.Chain
		want  bool
	}{
		{"what is known before", three(), 2, true, 60, chain(2, -1), true},
		{"less than what is known before", three(), 2, true, 59, chain(2, -1), false},
		{"what is known before, low", three(), 2, false, 20, chain(2, -1), true},
		{"more than what is known before, low", three(), 2, false, 21, chain(2, -1), false},
		{"a reading", three(), 0, true, 60, chain(0, 0), true},
		{"less than a reading", three(), 0, true, 59, chain(0, 0), false},
		{"a reading, low", three(), 0, false, 40, chain(0, 0), true},
		{"more than a reading, low", three(), 0, false, 41, chain(0, 0), false},
		{"a link to its Lot", three(), 1, true, 80, chain(0, 0, 1), true},
		{"a link to its Lot, too little", three(), 1, true, 79, chain(0, 0, 1), false},
		{"a link to its Lot, low", three(), 1, false, 50, chain(0, 0, 1), true},
		{"a link to its Lot, low, too much", three(), 1, false, 51, chain(0, 0, 1), false},
		{"a link to its Other", three(), 1, true, 93, chain(2, -1, 2), true},
		{"a link to its Other, too little", three(), 1, true, 92, chain(2, -1, 2), false},
		{"a link to its Other, low", three(), 1, false, 47, chain(2, -1, 2), true},
		{"a link to its Other, low, too much", three(), 1, false, 48, chain(2, -1, 2), false},
		{"two links", three(), 2, true, 53, chain(0, 0, 1, 2), true},
		{"two links, low", three(), 2, false, 17, chain(0, 0, 1, 2), true},
		{"two links, low, too much", three(), 2, false, 18, chain(0, 0, 1, 2), false},
		{"there and back", three(), 0, true, 70, chain(0, 0, 1, 1), true},
		{"there and back, too little", three(), 0, true, 69, chain(0, 0, 1, 1), false},
		{"six links", three(), 0, true, 90, chain(0, 0, 1, 1, 1, 1, 1, 1), true},
		{"six links, too little", three(), 0, true, 89, chain(0, 0, 1, 1, 1, 1, 1, 1), false},
		{"seven links", three(), 1, true, 999, chain(0, 0, 1, 1, 1, 1, 1, 1, 1), false},
		{"eight links", three(), 0, true, 999, chain(0, 0, 1, 1, 1, 1, 1, 1, 1, 1), false},
		{"another reading of the lot", hooked, 0, true, 61, chain(0, 5), true},
		{"another reading of the lot, too little", hooked, 0, true, 60, chain(0, 5), false},
		{"the reading of another lot", hooked, 2, true, 37, chain(1, 3, 4), true},
		{"the reading of another lot, too little", hooked, 2, true, 36, chain(1, 3, 4), false},
		{"the reading of another lot, low", hooked, 2, false, 27, chain(1, 3, 4), true},
		{"another way", hooked, 2, true, 38, chain(1, 3, 2), true},
		{"the greatest number", three(), 1, true, math.MaxInt, chain(0, 0, 1), true},
		{"the smallest number", three(), 1, true, math.MinInt, chain(0, 0, 1), false},
		{"the smallest number, low", three(), 1, false, math.MinInt, chain(0, 0, 1), true},
		{"the greatest number, low", three(), 1, false, math.MaxInt, chain(0, 0, 1), false},
		{"for another lot", three(), 2, true, 999, chain(0, 0, 1), false},
		{"for another lot, without links", three(), 1, true, 999, chain(0, 0), false},
		{"for no lot", three(), 3, true, 999, chain(0, 0), false},
		{"for the lot -1", three(), -1, true, 999, chain(0, 0), false},
		{"for the lot 6", three(), 6, true, 999, chain(6, -1), false},
		{"from no lot", three(), 3, true, 999, chain(3, -1), false},
		{"from the lot -1", three(), -1, true, 999, chain(-1, -1), false},
		{"from the lot 6 to another one", three(), 0, true, 999, chain(6, -1, 0), false},
		{"a First of another lot", three(), 2, true, 999, chain(2, 0), false},
		{"a First that compares", three(), 0, true, 999, chain(0, 1), false},
		{"a First that compares, of its Lot", three(), 1, true, 999, chain(1, 1), false},
		{"the First -2", three(), 0, true, 999, chain(0, -2), false},
		{"the First 3", three(), 0, true, 999, chain(0, 3), false},
		{"the greatest First", three(), 0, true, 999, chain(0, math.MaxInt), false},
		{"the smallest First", three(), 0, true, 999, chain(0, math.MinInt), false},
		{"a wrong First, and links", three(), 1, true, 999, chain(0, 3, 1), false},
		{"a link that is no comparison", three(), 0, true, 999, chain(0, 0, 0), false},
		{"a link that is no comparison, and one that is", three(), 1, true, 999, chain(0, 0, 0, 1), false},
		{"a link of other lots", three(), 2, true, 999, chain(0, 0, 2), false},
		{"a link of other lots, and back", three(), 0, true, 999, chain(0, 0, 2, 2), false},
		{"a wrong link, and a right one", three(), 1, true, 999, chain(0, 0, 2, 1), false},
		{"the link -1", three(), 0, true, 999, chain(0, 0, -1), false},
		{"the link 3", three(), 0, true, 999, chain(0, 0, 3), false},
		{"the greatest link", three(), 0, true, 999, chain(0, 0, math.MaxInt), false},
		{"the smallest link", three(), 0, true, 999, chain(0, 0, math.MinInt), false},
		{"readings that contradict each other", three(scale(2, 60, 2)), 2, true, 53, chain(0, 0, 1, 2), true},
		{"works that are not valid", dye.Works{}, 0, true, 999, chain(0, -1), false},
		{"works that are too large", works(full(7)), 0, true, 999, chain(0, -1), false},
	} {
		if dye.ProveChain(y.w, y.lot, y.high, y.bound, y.c) != y.want {
			t.Errorf("%s: ProveChain of %v for %d, %v, %d: not %v", y.name, y.c, y.lot, y.high, y.bound, y.want)
		}
	}
}

// A chain without any limit is none, and nothing of it is added up.
func TestProveLongChain(t *testing.T) {
	if dye.ProveChain(three(), 0, true, math.MaxInt, chain(0, 0, slices.Repeat(list(1, 1), 100000)...)) {
		t.Error("a chain of 200000 links")
	}
}

// P8.5: all chains of few links are tried, and others that are none.
func TestProveChainByAllChains(t *testing.T) {
	yes, no := 0, 0
	r := chance(13)
	for range 50 {
		w, _ := draw(r, small)
		chains(w, 2, func(c dye.Chain) {
			for lot := -1; lot <= len(w.Lots); lot++ {
				for _, high := range []bool{false, true} {
					bound, valid := boundOf(w, lot, high, c)
					for n := bound - 1; n <= bound+1; n++ {
						want := valid && (high && bound <= n || !high && bound >= n)
						if dye.ProveChain(w, lot, high, n, c) != want {
							t.Fatalf("ProveChain of %v, %v for %d, %v, %d: not %v", w, c, lot, high, n, want)
						}
					}
					if valid {
						yes++
					} else {
						no++
					}
				}
			}
		})
	}
	if yes < 3000 || no < 10000 {
		t.Errorf("%d are chains, %d are not", yes, no)
	}
}

// P8.6, P8.16, P6: any set is tried, by all lists of strengths.
func TestLeaveByAllTruths(t *testing.T) {
	var lengths [9]int
	tries(14, 600, func(_ *rand.Rand, w dye.Works, _ [][]int) {
		set, e := dye.Leave(w)
		can := map[int]bool{} // by the readings that do not hold, as bits
		numbers(w.Lots, func(s []int) {
			bits := 0
			for i, x := range w.Readings {
				if !holds(x, s) {
					bits |= 1 << i
				}
			}
			can[bits] = true
		})
		for _, want := range sets(len(w.Readings)) {
			out, some := 0, false
			for _, i := range want {
				out |= 1 << i
			}
			for bits := range can {
				some = some || bits&^out == 0
			}
			if !some {
				continue
			}
			lengths[len(want)]++
			if !slices.Equal(set, want) || e != api.OK {
				t.Fatalf("Leave of %v: %v, %v, not %v", w, set, e, want)
			}
			return
		}
	})
	if lengths[0] < 400 || lengths[1] < 100 || lengths[2] < 30 || lengths[3] < 5 {
		t.Errorf("so many sets of each length: %v", lengths)
	}
}

// P8.6, by hand
func TestLeave(t *testing.T) {
	never, low, high := scale(0, 0, 9), scale(0, 20, 5), scale(0, 40, 5)
	lot := row(to(10, 50))
	for _, y := range []struct {
		name string
		w    dye.Works
		want []int
	}{
		{"no readings", works(lot), nil},
		{"readings that agree", works(lot, low, low), nil},
		{"the first of two", works(lot, low, high), list(0)},
		{"the first of two, the other way", works(lot, high, low), list(0)},
		{"the one against two", works(lot, low, high, low), list(1)},
		{"the last one", works(lot, low, low, high), list(2)},
		{"one by itself", works(lot, low, never, low), list(1)},
		{"one by itself, and one of two", works(lot, never, low, high), list(0, 1)},
		{"the first two of four", works(lot, low, high, low, high), list(0, 2)},
		{"all", works(lot, never, never, never), list(0, 1, 2)},
		{"all of eight", works(lot, slices.Repeat([]dye.Reading{never}, 8)...), list(0, 1, 2, 3, 4, 5, 6, 7)},
		{"seven of eight", works(lot, never, never, never, never, never, low, never, never), list(0, 1, 2, 3, 4, 6, 7)},
		{"a comparison by itself", works(row(to(0, 10), to(20, 30)), compare(0, 1, 4, 13)), list(0)},
		{"a comparison and its contrary", works(full(2), compare(0, 1, 60, 10), compare(1, 0, 5, 0)), list(0)},
		{"a ring", works(full(3), compare(0, 1, 1, 0), compare(1, 2, 1, 0), compare(2, 0, 1, 2)), list(0)},
		{"one that is in two rings", works(full(3), compare(1, 2, 0, 0), compare(0, 1, 1, 0), compare(1, 0, 0, 0), compare(0, 1, 0, 0)), list(1)},
		{"by what is known before", three(scale(2, 5, 4), compare(0, 1, 5, 0)), list(1, 3)},
		{"one against three", three(scale(2, 60, 2), scale(0, 58, 2)), list(1)},
		{"the last one against three", works(row(to(0, 100), to(0, 100), to(20, 60)), scale(0, 50, 10), scale(0, 58, 2), compare(1, 0, 15, 5), compare(1, 0, 15, 5), scale(1, 81, 0)), list(4)},
	} {
		t.Run(y.name, func(t *testing.T) { leaves(t, y.w, y.want...) })
	}
}

// P8.7: all further readings of all lots are tried, by all truths.
func TestHelpByAllTruths(t *testing.T) {
	var best [6]int
	tries(15, 600, func(r *rand.Rand, w dye.Works, all [][]int) {
		if len(all) == 0 {
			return
		}
		err := list(0, 1, r.IntN(5), r.IntN(101), 100)[r.IntN(5)]
		lot, width := helpOf(w, all, err)
		if l, n, e := dye.Help(w, err); l != lot || n != width || e != api.OK {
			t.Fatalf("Help of %v with %d: %d, %d, %v, not %d, %d", w, err, l, n, e, lot, width)
		}
		best[lot]++
	})
	if best[0] < 200 || best[1] < 30 || best[2] < 15 || best[3] < 4 {
		t.Errorf("so many times each lot is the best one: %v", best)
	}
}

// P8.7, by hand
func TestHelp(t *testing.T) {
	helps(t, works(full(1)), 0, 0, 0)
	helps(t, works(full(1)), 10, 0, 20)
	helps(t, works(full(1)), 50, 0, 100)
	helps(t, works(full(1)), 100, 0, 100)
	helps(t, works(full(6)), 0, 0, 500)
	helps(t, works(row(to(0, 10), to(0, 30))), 1, 1, 12)
	helps(t, works(row(to(0, 30), to(0, 30))), 1, 0, 32)
	helps(t, works(row(to(5, 5), to(5, 5))), 7, 0, 0)
	helps(t, works(full(2), compare(0, 1, 0, 0)), 3, 0, 12)
	helps(t, works(full(3), compare(1, 0, 0, 5), compare(2, 1, 0, 5)), 0, 1, 20)
	helps(t, works(full(3), compare(1, 0, 0, 5), compare(2, 1, 0, 5)), 2, 1, 32)
	helps(t, works(full(3), compare(2, 0, 0, 5), compare(2, 1, 0, 5)), 0, 2, 20)
	helps(t, works(full(2), scale(0, 10, 2), compare(1, 0, 50, 40)), 0, 1, 4)
	helps(t, works(full(2), scale(0, 10, 2), compare(1, 0, 50, 40)), 100, 0, 86)
}
