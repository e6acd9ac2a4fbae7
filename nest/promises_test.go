package nest_test

import (
	"math"
	"slices"
	"testing"

	"nochez/api"
	"nochez/nest"
)

// P1.1
func TestFits(t *testing.T) {
	r := chance(11)
	for range 300 {
		g := draw(r, small)
		l, e := nest.Fits(g)
		if e != api.OK || len(l) != len(g.Pads) {
			t.Fatalf("Fits of %v: %v, %v", g, l, e)
		}
		for pad := range g.Pads {
			if len(l[pad]) != len(g.Kinds) {
				t.Fatalf("Fits of %v: %v", g, l)
			}
			for kind := range g.Kinds {
				if l[pad][kind] != (len(nestSpreads(g, pad, kind)) > 0) {
					t.Errorf("Fits of %v: pad %d, kind %d: %v", g, pad, kind, l[pad][kind])
				}
			}
		}
	}
}

// The ends: a kind that just fits, and one that just does not; a pad without neighbours, on which Near is not used.
func TestFitsAtTheEnds(t *testing.T) {
	kind := func(young int) nest.Kind { return nest.Kind{Young: young, Own: to(20, 30), Near: to(10, 20)} }
	g := row(4, kind(30), kind(50), kind(51))
	g.Joins = g.Joins[:2]
	l, e := nest.Fits(g)
	want := [][]bool{{true, true, false}, {false, true, true}, {true, true, false}, {true, false, false}}
	if e != api.OK || !slices.EqualFunc(l, want, slices.Equal) {
		t.Errorf("Fits: %v, %v", l, e)
	}
	g = row(4, kind(29), kind(39), kind(71))
	g.Joins = g.Joins[:2]
	l, e = nest.Fits(g)
	want = [][]bool{{false, true, false}, {false, false, false}, {false, true, false}, {true, false, false}}
	if e != api.OK || !slices.EqualFunc(l, want, slices.Equal) {
		t.Errorf("Fits: %v, %v", l, e)
	}
}

// P1.2, P1.8 and P1.9: the bounds are what all spreads make of a pad, without gaps, and the faults follow from them.
func TestBoundsAndFaultsByAllSpreads(t *testing.T) {
	r := chance(12)
	for range 400 {
		g := draw(r, small)
		layout := drawLayout(r, g)
		reached := make([]map[int]bool, len(g.Pads))
		for p := range reached {
			reached[p] = map[int]bool{}
		}
		spreads(g, layout, func(s [][]int) {
			for p := range reached {
				reached[p][young(s, p)] = true
			}
		})
		b, e := nest.Bounds(g, layout)
		if e != api.OK || len(b) != len(g.Pads) {
			t.Fatalf("Bounds of %v, %v: %v, %v", g, layout, b, e)
		}
		var missed, overfull []int
		for p, x := range g.Pads {
			for n := range reached[p] {
				if n < b[p].Lo || n > b[p].Hi {
					t.Fatalf("Bounds of %v, %v: %v: %d of pad %d is outside", g, layout, b, n, p)
				}
			}
			if len(reached[p]) != b[p].Hi-b[p].Lo+1 {
				t.Fatalf("Bounds of %v, %v: %v: pad %d has only %v", g, layout, b, p, reached[p])
			}
			if b[p].Lo < x.Need {
				missed = append(missed, p)
			}
			if b[p].Hi > x.Room {
				overfull = append(overfull, p)
			}
		}
		m, o, e := nest.Faults(g, layout)
		if e != api.OK || !slices.Equal(m, missed) || !slices.Equal(o, overfull) {
			t.Fatalf("Faults of %v, %v: %v, %v, %v", g, layout, m, o, e)
		}
	}
}

// A number that is just the Need, or just the Room, is no fault.
func TestFaultsAtTheEnds(t *testing.T) {
	for _, x := range []struct {
		pad              nest.Pad
		missed, overfull []int
	}{
		{nest.Pad{Need: 20, Room: 30}, nil, nil},
		{nest.Pad{Need: 21, Room: 30}, list(1), nil},
		{nest.Pad{Need: 20, Room: 29}, nil, list(1)},
		{nest.Pad{Need: 25, Room: 25}, list(1), list(1)},
	} {
		g := row(5, fifty())
		g.Pads[1] = x.pad
		m, o, e := nest.Faults(g, list(no, 0, no, 0, no))
		if e != api.OK || !slices.Equal(m, x.missed) || !slices.Equal(o, x.overfull) {
			t.Errorf("Faults with %v: %v, %v, %v", x.pad, m, o, e)
		}
	}
}

// P1.3
func TestWorst(t *testing.T) {
	r := chance(13)
	for range 400 {
		g := draw(r, []size{small, large, wide}[r.IntN(3)])
		layout := drawLayout(r, g)
		b := ends(g, layout)
		for pad := range g.Pads {
			low, e := nest.Worst(g, layout, pad, false)
			high, f := nest.Worst(g, layout, pad, true)
			if e != api.OK || f != api.OK || !isSpread(g, layout, low) || !isSpread(g, layout, high) {
				t.Fatalf("Worst of %v, %v, %d: %v, %v; %v, %v", g, layout, pad, low, e, high, f)
			}
			if young(low, pad) != b[pad].Lo || young(high, pad) != b[pad].Hi {
				t.Fatalf("Worst of %v, %v, %d: %v and %v, for %v", g, layout, pad, low, high, b[pad])
			}
		}
	}
}

// P1.4: Show finds a good spread if any one of all is good, and ProveSpread holds for just those that are.
func TestShowAndProveSpreadByAllSpreads(t *testing.T) {
	r, found, none := chance(14), 0, 0
	for range 600 {
		g := draw(r, small)
		layout, some := drawLayout(r, g), false
		spreads(g, layout, func(s [][]int) {
			good := isGood(g, s)
			some = some || good
			if nest.ProveSpread(g, layout, s) != good {
				t.Fatalf("ProveSpread of %v, %v, %v: not %v", g, layout, s, good)
			}
		})
		s, e := nest.Show(g, layout)
		switch {
		case some && (e != api.OK || !isSpread(g, layout, s) || !isGood(g, s)):
			t.Fatalf("Show of %v, %v: %v, %v", g, layout, s, e)
		case !some && (e != api.ErrFail || len(s) != 0):
			t.Fatalf("Show of %v, %v: %v, %v, and no spread is good", g, layout, s, e)
		case some:
			found++
		default:
			none++
		}
	}
	if found < 50 || none < 50 {
		t.Errorf("%d layouts have a good spread, %d have none", found, none)
	}
}

// If each pad needs just what it gets in some spread, Show has to find it.
func TestShowOfExactNeeds(t *testing.T) {
	r := chance(15)
	for range 300 {
		g := draw(r, large)
		layout := drawLayout(r, g)
		want, e := nest.Worst(g, layout, r.IntN(len(g.Pads)), r.IntN(2) == 0)
		if e != api.OK {
			t.Fatal(e)
		}
		some := true
		for p := range g.Pads {
			n := young(want, p)
			some = some && n <= api.MaxNestYoung
			g.Pads[p] = nest.Pad{Need: min(n, api.MaxNestYoung), Room: min(n, api.MaxNestYoung)}
		}
		if s, e := nest.Show(g, layout); (e == api.OK) != some || some && (!isSpread(g, layout, s) || !isGood(g, s)) {
			t.Fatalf("Show of %v, %v: %v, %v", g, layout, s, e)
		}
	}
}

// Young can reach the pads only if some nests give way to others: all pads but one are just full.
func TestShowByWayOfOthers(t *testing.T) {
	g := row(5, nest.Kind{Young: 10, Own: to(0, 10), Near: to(0, 10)})
	for _, needs := range [][]int{{10, 10, 10, 10, 10}, {20, 0, 10, 0, 20}, {0, 30, 0, 20, 0}, {20, 10, 0, 0, 20}, {0, 20, 10, 20, 0}} {
		for p, n := range needs {
			g.Pads[p] = nest.Pad{Need: n, Room: n}
		}
		if s, e := nest.Show(g, list(0, 0, 0, 0, 0)); e != api.OK || !isSpread(g, list(0, 0, 0, 0, 0), s) || !isGood(g, s) {
			t.Errorf("Show of %v: %v, %v", needs, s, e)
		}
	}
	for _, needs := range [][]int{{30, 0, 10, 0, 10}, {0, 40, 0, 10, 0}, {0, 0, 30, 20, 0}, {10, 10, 10, 10, 9}, {10, 10, 10, 10, 11}} {
		for p, n := range needs {
			g.Pads[p] = nest.Pad{Need: n, Room: n}
		}
		if s, e := nest.Show(g, list(0, 0, 0, 0, 0)); e != api.ErrFail || len(s) != 0 {
			t.Errorf("Show of %v: %v, %v", needs, s, e)
		}
	}
}

// A good spread of a layout without nests has an empty list for each pad.
func TestShowWithoutNests(t *testing.T) {
	g := row(3, fifty())
	for p := range g.Pads {
		g.Pads[p].Need = 0
	}
	s, e := nest.Show(g, list(no, no, no))
	if e != api.OK || len(s) != 3 || !nest.ProveSpread(g, list(no, no, no), s) {
		t.Errorf("Show: %v, %v", s, e)
	}
}

func TestProveSpread(t *testing.T) {
	g, layout := row(5, fifty()), list(no, 0, no, 0, no)
	good := [][]int{nil, {15, 25, 10, 0, 0}, nil, {0, 0, 20, 20, 10}, nil}
	with := func(change func(s [][]int)) [][]int {
		s := [][]int{{}, slices.Clone(good[1]), {}, slices.Clone(good[3]), {}}
		change(s)
		return s
	}
	for _, x := range []struct {
		name string
		s    [][]int
		want bool
	}{
		{"good", good, true},
		{"empty lists", with(func(s [][]int) {}), true},
		{"own at its lower end", with(func(s [][]int) { s[1] = list(20, 20, 10, 0, 0) }), true},
		{"own too low", with(func(s [][]int) { s[1] = list(16, 19, 15, 0, 0) }), false},
		{"own too high", with(func(s [][]int) { s[3] = list(0, 0, 10, 31, 9) }), false},
		{"near too low", with(func(s [][]int) { s[1] = list(20, 21, 9, 0, 0) }), false},
		{"near too high", with(func(s [][]int) { s[1] = list(21, 19, 10, 0, 0) }), false},
		{"too few", with(func(s [][]int) { s[3][3] = 19 }), false},
		{"one short", with(func(s [][]int) { s[1][0] = 14 }), false},
		{"one over", with(func(s [][]int) { s[1][0] = 16 }), false},
		{"not reached", with(func(s [][]int) { s[1] = list(15, 24, 10, 1, 0) }), false},
		{"less than nothing", with(func(s [][]int) { s[1] = list(16, 25, 10, 0, -1) }), false},
		{"a list too short", with(func(s [][]int) { s[1] = s[1][:4] }), false},
		{"a list too long", with(func(s [][]int) { s[1] = append(s[1], 0) }), false},
		{"no list for a nest", with(func(s [][]int) { s[3] = nil }), false},
		{"a list for no nest", with(func(s [][]int) { s[0] = list(0, 0, 0, 0, 0) }), false},
		{"a number for no nest", with(func(s [][]int) { s[4] = list(0) }), false},
		{"too few lists", good[:4], false},
		{"too many lists", append(slices.Clone(good), nil), false},
		{"no lists", nil, false},
		{"numbers that add up only by overflow", with(func(s [][]int) { s[1] = list(math.MaxInt, 25, math.MinInt, 26, 0) }), false},
	} {
		if nest.ProveSpread(g, layout, x.s) != x.want {
			t.Errorf("ProveSpread, %s: not %v", x.name, x.want)
		}
	}
	for _, pad := range []nest.Pad{{Need: 16, Room: 40}, {Need: 0, Room: 14}} {
		h := clone(g)
		h.Pads[0] = pad
		if nest.ProveSpread(h, layout, good) {
			t.Errorf("ProveSpread: good with %v", pad)
		}
	}
	if nest.ProveSpread(g, list(no, 1, no, 0, no), good) || nest.ProveSpread(g, list(no, 0, no, no, no), good) || nest.ProveSpread(g, nil, good) {
		t.Error("ProveSpread of another layout")
	}
	g.Pads[4].Room = 1001
	if nest.ProveSpread(g, layout, good) || nest.ProveSpread(nest.Grove{}, nil, nil) {
		t.Error("ProveSpread of no valid grove")
	}
}

// P1.5 and P1.10: the best layout is the first right one with the fewest nests, if any one is tried.
func TestBestByAllLayouts(t *testing.T) {
	r, found, none := chance(16), 0, 0
	for range 300 {
		g := draw(r, wide)
		if len(g.Pads) > 6 {
			continue
		}
		var want []int
		layouts(g, func(layout []int) {
			right := isRight(g, ends(g, layout))
			if right && (want == nil || count(layout) < count(want)) {
				want = slices.Clone(layout)
			}
		})
		layout, nests, e := nest.Best(g)
		if want == nil {
			none++
			if e != api.ErrMiss || len(layout) != 0 || nests != 0 {
				t.Fatalf("Best of %v: %v, %d, %v", g, layout, nests, e)
			}
			continue
		}
		found++
		if e != api.OK || !slices.Equal(layout, want) || nests != count(want) {
			t.Fatalf("Best of %v: %v, %d, %v, not %v", g, layout, nests, e, want)
		}
		if spare, e := nest.Spare(g, layout); len(spare) != 0 || e != api.OK {
			t.Fatalf("Spare of the best layout of %v: %v, %v", g, spare, e)
		}
	}
	if found < 20 || none < 20 {
		t.Errorf("%d groves have a best layout, %d have none", found, none)
	}
}

func TestBestOfSeveral(t *testing.T) {
	bare := row(4, fifty())
	for p := range bare.Pads {
		bare.Pads[p].Need = 0
	}
	for _, x := range []struct {
		name   string
		g      nest.Grove
		layout []int
		nests  int
	}{
		{"no needs", bare, list(no, no, no, no), 0},
		{"the smaller kind first", row(1, twenty(), twenty()), list(0), 1},
		{"a kind that fits nowhere", row(1, tiny(), twenty()), list(1), 1},
		{"the later pad first", row(2, fifty(), twenty()), list(no, 0), 1},
		{"fewer nests before a smaller kind", row(2, twenty(), fifty()), list(no, 1), 1},
		{"a nest on each pad", row(8, twenty()), list(0, 0, 0, 0, 0, 0, 0, 0), 8},
	} {
		layout, nests, e := nest.Best(x.g)
		if e != api.OK || !slices.Equal(layout, x.layout) || nests != x.nests {
			t.Errorf("%s: %v, %d, %v", x.name, layout, nests, e)
		}
	}
}

func TestProveLayout(t *testing.T) {
	r := chance(17)
	right := 0
	for range 300 {
		g := draw(r, wide)
		layout := drawLayout(r, g)
		if l, _, e := nest.Best(g); e == api.OK && r.IntN(2) == 0 {
			layout = l
		}
		is, n := isRight(g, ends(g, layout)), count(layout)
		if is {
			right++
		}
		for _, nests := range list(math.MinInt, -1, 0, n-1, n, n+1, 9, math.MaxInt) {
			if nest.ProveLayout(g, layout, nests) != (is && n <= nests) {
				t.Fatalf("ProveLayout of %v, %v, %d", g, layout, nests)
			}
		}
	}
	if right < 20 {
		t.Errorf("only %d layouts are right", right)
	}
	// The layouts have a good spread, but are not right.
	g := row(5, fifty())
	if nest.ProveLayout(g, list(no, 0, 0, 0, no), 5) {
		t.Error("ProveLayout: right, with pads that can be overfull")
	}
	g.Pads[0].Need = 15
	if nest.ProveLayout(g, list(no, 0, no, 0, no), 5) {
		t.Error("ProveLayout: right, with a pad that can be missed")
	}
}

// P1.6
func TestSpare(t *testing.T) {
	r, spares := chance(18), 0
	for range 500 {
		g := draw(r, wide)
		layout := drawLayout(r, g)
		if l, _, e := nest.Best(g); e == api.OK && r.IntN(2) == 0 {
			layout = l
			for pad := range layout {
				if kind := r.IntN(len(g.Kinds)); layout[pad] == no && fits(g, pad, kind) {
					layout[pad] = kind
					break
				}
			}
		}
		var want []int
		for pad, kind := range layout {
			rest := slices.Clone(layout)
			rest[pad] = no
			if kind != no && isRight(g, ends(g, rest)) {
				want = append(want, pad)
			}
		}
		spares += len(want)
		if spare, e := nest.Spare(g, layout); e != api.OK || !slices.Equal(spare, want) {
			t.Fatalf("Spare of %v, %v: %v, %v, not %v", g, layout, spare, e, want)
		}
	}
	if spares < 40 {
		t.Errorf("only %d nests are spare", spares)
	}
}

// Each nest can be removed by itself, though not both together; a pad without a nest is never spare.
func TestSpareByItself(t *testing.T) {
	g := row(2, twenty())
	g.Kinds[0] = nest.Kind{Young: 20, Own: to(10, 10), Near: to(10, 10)}
	if spare, e := nest.Spare(g, list(0, 0)); e != api.OK || !slices.Equal(spare, list(0, 1)) {
		t.Errorf("Spare of both: %v, %v", spare, e)
	}
	if spare, e := nest.Spare(g, list(0, no)); e != api.OK || len(spare) != 0 {
		t.Errorf("Spare of one: %v, %v", spare, e)
	}
	g.Pads[0].Need, g.Pads[1].Need = 0, 0
	if spare, e := nest.Spare(g, list(no, no)); e != api.OK || len(spare) != 0 {
		t.Errorf("Spare of none: %v, %v", spare, e)
	}
}

// P1.7
func TestApartAndProveApartByAllLists(t *testing.T) {
	r := chance(19)
	for range 300 {
		g := draw(r, large)
		if r.IntN(3) > 0 {
			g.Joins = g.Joins[:r.IntN(len(g.Joins)+1)]
		}
		var want []int
		for set := range 1 << len(g.Pads) {
			var pads []int
			for p := range g.Pads {
				if set>>p&1 == 1 {
					pads = append(pads, p)
				}
			}
			is := isApart(g, pads)
			if nest.ProveApart(g, pads) != is {
				t.Fatalf("ProveApart of %v, %v: not %v", g, pads, is)
			}
			if is && (len(pads) > len(want) || len(pads) == len(want) && slices.Compare(pads, want) < 0) {
				want = pads
			}
		}
		if pads, e := nest.Apart(g); e != api.OK || !slices.Equal(pads, want) {
			t.Fatalf("Apart of %v: %v, %v, not %v", g, pads, e, want)
		}
	}
}

func TestProveApart(t *testing.T) {
	g := row(5, fifty())
	for _, x := range []struct {
		pads []int
		want bool
	}{
		{nil, true}, {list(), true}, {list(4), true}, {list(0, 3), true}, {list(0, 4), true}, {list(1, 4), true},
		{list(0, 1), false}, {list(0, 2), false}, {list(3, 0), false}, {list(0, 0), false}, {list(0, 3, 3), false},
		{list(5), false}, {list(-1), false}, {list(-1, 3), false}, {list(0, math.MaxInt), false}, {list(math.MinInt, 0), false}, {make([]int, 1000), false},
	} {
		if nest.ProveApart(g, x.pads) != x.want {
			t.Errorf("ProveApart of %v: not %v", x.pads, x.want)
		}
	}
	g.Pads[3].Need = 0
	if nest.ProveApart(g, list(0, 3)) || nest.ProveApart(g, list(3)) {
		t.Error("ProveApart of a pad that needs nothing")
	}
	for _, wrong := range []nest.Grove{{}, row(9, fifty()), row(5)} {
		if nest.ProveApart(wrong, nil) || nest.ProveApart(wrong, list(0)) {
			t.Errorf("ProveApart of %v", wrong)
		}
	}
}
