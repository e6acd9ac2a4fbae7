package kill_test

import (
	"math"
	"math/rand/v2"
	"reflect"
	"slices"
	"testing"

	"nochez/api"
	"nochez/kill"
)

// P6.1, by hand
func TestPlay(t *testing.T) {
	for _, y := range []struct {
		name  string
		make  func(x *kill.Truth)
		water [][]int
		can   bool
	}{
		{"a truth", func(x *kill.Truth) {}, lists(list(90, 80, 50), list(60, 40, 40)), true},
		{"the least water, and the least that goes off", func(x *kill.Truth) { x.Water[0], x.Off[0] = 100, list(10, 9, 24) }, lists(list(90, 81, 57), list(60, 40, 40)), true},
		{"less goes off first", func(x *kill.Truth) { x.Water[0], x.Off[0] = 100, list(9, 9, 24) }, lists(list(91, 82, 58), list(60, 40, 40)), false},
		{"less goes off last", func(x *kill.Truth) { x.Water[0], x.Off[0] = 100, list(10, 9, 23) }, lists(list(90, 81, 58), list(60, 40, 40)), false},
		{"the most water, and the most that goes off", func(x *kill.Truth) { x.Water[0], x.Off[0] = 110, list(22, 18, 28) }, lists(list(88, 70, 42), list(60, 40, 40)), true},
		{"more goes off in the middle", func(x *kill.Truth) { x.Water[0], x.Off[0] = 110, list(22, 19, 28) }, lists(list(88, 69, 41), list(60, 40, 40)), false},
		{"it does not become right again", func(x *kill.Truth) { x.Water[0], x.Off[0] = 110, list(23, 9, 24) }, lists(list(87, 78, 54), list(60, 40, 40)), false},
		{"something goes off in None", func(x *kill.Truth) { x.Off[1][0] = 1 }, lists(list(90, 80, 50), list(59, 39, 39)), false},
		{"something goes off in None, at the end", func(x *kill.Truth) { x.Off[1][2] = 1 }, lists(list(90, 80, 50), list(60, 40, 39)), false},
		{"below 0", func(x *kill.Truth) { x.Off[0] = list(1000, 1000, 1000) }, lists(list(-895, -1895, -2895), list(60, 40, 40)), false},
		{"below 0, and then as little as there is", func(x *kill.Truth) { x.Off[0] = list(106, 0, 0) }, lists(list(-1, -1, -1), list(60, 40, 40)), false},
		{"just to 0", func(x *kill.Truth) { x.Off[1][1] = 60 }, lists(list(90, 80, 50), list(60, 0, 0)), false},
		{"the second lot: least", func(x *kill.Truth) { x.Off[1][1] = 18 }, lists(list(90, 80, 50), list(60, 42, 42)), true},
		{"the second lot: most", func(x *kill.Truth) { x.Off[1][1] = 24 }, lists(list(90, 80, 50), list(60, 36, 36)), true},
		{"the second lot: less", func(x *kill.Truth) { x.Off[1][1] = 17 }, lists(list(90, 80, 50), list(60, 43, 43)), false},
		{"the second lot: more", func(x *kill.Truth) { x.Off[1][1] = 25 }, lists(list(90, 80, 50), list(60, 35, 35)), false},
	} {
		x := his()
		y.make(&x)
		if water, can, e := kill.Play(two(), hers(), x); !reflect.DeepEqual(water, y.water) || can != y.can || e != api.OK {
			t.Errorf("%s: Play of %v: %v, %v, %v", y.name, x, water, can, e)
		}
	}
}

// alone is a house with one lot, one place and one step.
func alone(p kill.Place, l kill.Lot) kill.House {
	return kill.House{Places: []kill.Place{p}, Lots: []kill.Lot{l}, Steps: 1}
}

// The least that goes off is rounded down, the most up.
func TestRounding(t *testing.T) {
	for _, y := range []struct {
		water, low, high int
		least, most      int
	}{
		{1000, 0, 0, 0, 0}, {1000, 1, 1, 1, 1}, {999, 1, 1, 0, 1}, {1, 1, 1, 0, 1}, {1, 999, 999, 0, 1}, {1, 1000, 1000, 1, 1}, {0, 0, 1000, 0, 0}, {0, 1000, 1000, 0, 0},
		{10, 100, 200, 1, 2}, {11, 100, 200, 1, 3}, {9, 100, 200, 0, 2}, {15, 333, 334, 4, 6}, {3, 333, 334, 0, 2}, {3, 334, 334, 1, 2}, {1000, 1000, 1000, 1000, 1000}, {1000, 0, 1000, 0, 1000}, {7, 0, 1000, 0, 7}, {1000, 499, 501, 499, 501},
	} {
		h := alone(place(1, 1, 1, y.low, y.high), lot(1, y.water, y.water, 0, 1000))
		p := lists(list(0))
		known(t, h, p, nil, rows(row(to(y.water-y.most, y.water-y.least))))
		if r, e := kill.Shrink(h, p); r != to(y.least, y.most) || e != api.OK {
			t.Errorf("Shrink of %v: %v, %v", h, r, e)
		}
		for off := range 1001 {
			_, can, e := kill.Play(h, p, kill.Truth{Water: list(y.water), Off: lists(list(off))})
			if can != (off >= y.least && off <= y.most) || e != api.OK {
				t.Errorf("Play of %v, %d: %v, %v", h, off, can, e)
			}
		}
		known(t, h, nowhere(h), nil, rows(row(to(y.water, y.water))))
	}
}

// P6.4, by hand: the second number is that of the place whose colour the lot gets.
func TestKilled(t *testing.T) {
	h := kill.House{
		Places: []kill.Place{place(3, 2, 1, 0, 0), place(3, 3, 2, 0, 0), place(3, 0, 2, 0, 0)},
		Lots:   []kill.Lot{lot(1, 0, 0, 0, 0)}, Steps: 5,
	}
	one := clone(h)
	one.Places[0].Kill, one.Places[1].Kill, one.Places[2].Kill = 1, 5, 4
	for _, y := range []struct {
		h      kill.House
		l      []int
		step   int
		colour uint8
	}{
		{h, list(-1, -1, -1, -1, -1), -1, 0}, {h, list(0, 0, -1, -1, -1), 1, 1}, {h, list(-1, -1, -1, 0, 0), 4, 1}, {h, list(0, 0, 0, 0, 0), 1, 1}, {h, list(0, -1, 0, -1, 0), -1, 0},
		{h, list(0, 1, 0, 1, 0), -1, 0}, {h, list(0, 2, 0, 0, 2), 3, 1}, {h, list(1, 1, 1, -1, -1), 2, 2}, {h, list(1, 1, -1, 1, 1), -1, 0}, {h, list(1, 1, 0, 1, 1), -1, 0},
		{h, list(1, 1, 0, 0, 1), 3, 1}, {h, list(1, 1, 1, 0, 0), 2, 2}, {h, list(0, 0, 1, 1, 1), 1, 1}, {h, list(0, 1, 1, 1, 1), 3, 2}, {h, list(2, 2, 2, 2, 2), -1, 0}, {h, list(0, 2, 2, 2, 0), -1, 0},
		{h, list(2, 0, 0, 2, 2), 2, 1}, {h, list(0, -1, -1, -1, 0), -1, 0}, {h, list(1, -1, 1, 1, 1), 4, 2}, {h, list(1, 2, 1, 1, 2), -1, 0},
		{one, list(0, 1, 1, 1, 1), 0, 1}, {one, list(1, 1, 1, 1, 0), 4, 1}, {one, list(1, 1, 1, 1, 1), 4, 2}, {one, list(2, 2, 2, 2, 0), 3, 2}, {one, list(2, 2, 2, -1, 2), -1, 0}, {one, list(-1, 1, 1, 1, 1), -1, 0}, {one, list(-1, 2, 2, 2, 2), 4, 2},
	} {
		steps, colours, e := kill.Killed(y.h, lists(y.l))
		if !slices.Equal(steps, list(y.step)) || !slices.Equal(colours, []uint8{y.colour}) || e != api.OK {
			t.Errorf("Killed of %v, %v: %v, %v, %v", y.h.Places, y.l, steps, colours, e)
		}
		wrong, e := kill.Wrong(y.h, lists(y.l))
		if slices.Equal(wrong, list(0)) != (y.colour == 0) || e != api.OK {
			t.Errorf("Wrong of %v, %v: %v, %v", y.h.Places, y.l, wrong, e)
		}
	}
}

// P6.4, by hand
func TestWrong(t *testing.T) {
	for _, y := range []struct {
		name  string
		place kill.Place
		lot   kill.Lot
		in    int
		right bool
	}{
		{"any colour", place(1, 1, 2, 0, 0), lot(10, 0, 0, 0, 0), 0, true},
		{"not killed", place(1, 1, 2, 0, 0), lot(10, 0, 0, 0, 0), -1, false},
		{"a place that does not kill", place(1, 0, 2, 0, 0), lot(10, 0, 0, 0, 0), 0, false},
		{"too few steps", place(1, 2, 2, 0, 0), lot(10, 0, 0, 0, 0), 0, false},
		{"the colour that is asked for", place(1, 1, 2, 0, 0), lot(10, 0, 0, 2, 0), 0, true},
		{"grey for black", place(1, 1, 1, 0, 0), lot(10, 0, 0, 2, 0), 0, false},
		{"black for grey", place(1, 1, 2, 0, 0), lot(10, 0, 0, 1, 0), 0, false},
		{"grey for grey", place(1, 1, 1, 0, 0), lot(10, 0, 0, 1, 0), 0, true},
		{"just the limit", place(1, 1, 1, 0, 0), lot(10, 0, 5, 0, 500), 0, true},
		{"above the limit", place(1, 1, 1, 0, 0), lot(10, 0, 6, 0, 500), 0, false},
		{"the limit is rounded down", place(1, 1, 1, 0, 0), lot(3, 0, 1, 0, 333), 0, false},
		{"the limit is not rounded", place(1, 1, 1, 0, 0), lot(3, 0, 1, 0, 334), 0, true},
		{"the least that goes off counts", place(1, 1, 1, 500, 1000), lot(10, 10, 10, 0, 500), 0, true},
		{"not the most", place(1, 1, 1, 400, 1000), lot(10, 10, 10, 0, 500), 0, false},
		{"the least is rounded down", place(1, 1, 1, 599, 1000), lot(10, 10, 10, 0, 400), 0, false},
		{"the most water counts", place(1, 1, 1, 500, 500), lot(10, 0, 12, 0, 500), 0, false},
		{"all goes off", place(1, 1, 1, 1000, 1000), lot(10, 0, 1000, 0, 0), 0, true},
		{"the greatest numbers", place(1, 1, 1, 0, 0), lot(1000, 0, 1000, 0, 1000), 0, true},
		{"just above", place(1, 1, 1, 0, 0), lot(1000, 0, 1000, 0, 999), 0, false},
	} {
		h, p := alone(y.place, y.lot), lists(list(y.in))
		if wrong, e := kill.Wrong(h, p); (len(wrong) == 0) != y.right || e != api.OK {
			t.Errorf("%s: Wrong of %v, %v: %v, %v", y.name, h, p, wrong, e)
		}
		if kill.ProvePlan(h, p, 1) != y.right {
			t.Errorf("%s: ProvePlan of %v, %v", y.name, h, p)
		}
		if best, n, e := kill.Best(h); (e == api.OK) != (y.right || y.in < 0) || e == api.OK && (n != 1 || !reflect.DeepEqual(best, lists(list(0)))) {
			t.Errorf("%s: Best of %v: %v, %d, %v", y.name, h, best, n, e)
		}
	}
}

// tries calls a function with houses whose lots have few courses, a plan of each, and all courses.
func tries(seed uint64, call func(r *rand.Rand, h kill.House, p kill.Plan, all allCourses)) {
	r := chance(seed)
	for range 1500 {
		h := draw(r, small)
		p := drawPlan(r, h)
		call(r, h, p, coursesOf(h, p))
	}
}

// P6.1: any numbers are tried.
func TestPlayByTheReference(t *testing.T) {
	yes, no := 0, 0
	tries(11, func(r *rand.Rand, h kill.House, p kill.Plan, _ allCourses) {
		for range 20 {
			x := drawTruth(r, h, p)
			for range r.IntN(3) {
				i, step := r.IntN(len(h.Lots)), r.IntN(h.Steps)
				x.Off[i][step] = max(0, x.Off[i][step]+between(r, -2, 2))
			}
			want, can := played(h, p, x)
			if water, is, e := kill.Play(h, p, x); !reflect.DeepEqual(water, want) || is != can || e != api.OK {
				t.Fatalf("Play of %v, %v, %v: %v, %v, %v, not %v, %v", h, p, x, water, is, e, want, can)
			}
			if can {
				yes++
			} else {
				no++
			}
		}
	})
	if yes < 1000 || no < 1000 {
		t.Errorf("%d truths, and %d others", yes, no)
	}
}

// P6.2, P6.3, P6.7, P6.8, P6.15, P6: the bounds are those of all courses, and any set is tried.
func TestWatersAndLeaveByAllCourses(t *testing.T) {
	var lengths [7]int
	tries(12, func(r *rand.Rand, h kill.House, p kill.Plan, all allCourses) {
		for range 4 {
			seen := drawWeighs(r, h, p, r.IntN(7), 4)
			for _, want := range sets(len(seen)) {
				kept, can := all.that(h, without(seen, want))
				if !can {
					continue
				}
				lengths[len(want)]++
				if set, e := kill.Leave(h, p, seen); !slices.Equal(set, want) || e != api.OK {
					t.Fatalf("Leave of %v, %v, %v: %v, %v, not %v", h, p, seen, set, e, want)
				}
				known(t, h, p, without(seen, want), kept.waters())
				if l, e := kill.Waters(h, p, seen); len(want) > 0 && (len(l) > 0 || e != api.ErrFail) {
					t.Fatalf("Waters of %v, %v, %v: %v, %v", h, p, seen, l, e)
				}
				break
			}
		}
	})
	if lengths[0] < 1000 || lengths[1] < 500 || lengths[2] < 100 || lengths[3] < 10 {
		t.Errorf("so many sets of each length: %v", lengths)
	}
}

// P6.2, by hand: what is weighed counts for the steps before it and after it, but not for other lots.
func TestWaters(t *testing.T) {
	second := row(to(60, 60), to(36, 42), to(36, 42))
	for _, y := range []struct {
		name string
		p    kill.Plan
		seen []kill.Weigh
		want [][]kill.Range
	}{
		{"nowhere", nowhere(two()), nil, rows(row(to(100, 110), to(100, 110), to(100, 110)), row(to(60, 60), to(60, 60), to(60, 60)))},
		{"nowhere, weighed", nowhere(two()), []kill.Weigh{weigh(0, 1, 183, 187)}, rows(row(to(103, 107), to(103, 107), to(103, 107)), row(to(60, 60), to(60, 60), to(60, 60)))},
		{"weighed by more than can be", hers(), []kill.Weigh{weigh(0, 0, 0, 2000)}, rows(row(to(80, 99), to(64, 90), to(38, 63)), second)},
		{"weighed after the first step", hers(), []kill.Weigh{weigh(0, 0, 170, 175)}, rows(row(to(90, 95), to(72, 86), to(43, 61)), second)},
		{"weighed after the last step", hers(), []kill.Weigh{weigh(0, 2, 140, 2000)}, rows(row(to(94, 99), to(85, 90), to(60, 63)), second)},
		{"little, weighed after the last step", hers(), []kill.Weigh{weigh(0, 2, 0, 118)}, rows(row(to(80, 81), to(64, 64), to(38, 38)), second)},
		{"weighed twice after a step", hers(), []kill.Weigh{weigh(0, 1, 150, 165), weigh(0, 1, 160, 170)}, rows(row(to(88, 99), to(80, 85), to(48, 60)), second)},
		{"weighed after two steps", hers(), []kill.Weigh{weigh(0, 0, 178, 178), weigh(0, 1, 0, 158)}, rows(row(to(98, 98), to(78, 78), to(46, 55)), second)},
		{"the second lot", hers(), []kill.Weigh{weigh(1, 2, 80, 81)}, rows(row(to(80, 99), to(64, 90), to(38, 63)), row(to(60, 60), to(40, 41), to(40, 41)))},
	} {
		t.Run(y.name, func(t *testing.T) { known(t, two(), y.p, y.seen, y.want) })
	}
}

// P6.3, by hand
func TestLeave(t *testing.T) {
	low, high, none := weigh(0, 0, 160, 165), weigh(0, 0, 170, 175), weigh(1, 0, 0, 99)
	for _, y := range []struct {
		name string
		seen []kill.Weigh
		want []int
	}{
		{"no weighings", nil, nil},
		{"weighings that agree", []kill.Weigh{low, low}, nil},
		{"ends that meet", []kill.Weigh{low, weigh(0, 0, 165, 170)}, nil},
		{"the first of two", []kill.Weigh{low, high}, list(0)},
		{"the one against two", []kill.Weigh{low, high, low}, list(1)},
		{"the last one", []kill.Weigh{low, low, high}, list(2)},
		{"one by itself", []kill.Weigh{low, none, low}, list(1)},
		{"one by itself, and one of two", []kill.Weigh{none, low, high}, list(0, 1)},
		{"the first two of four", []kill.Weigh{low, high, low, high}, list(0, 2)},
		{"all", []kill.Weigh{none, none, none}, list(0, 1, 2)},
		{"all of six", []kill.Weigh{none, none, none, none, none, none}, list(0, 1, 2, 3, 4, 5)},
		{"of both lots", []kill.Weigh{low, none, high, none}, list(0, 1, 3)},
		{"less after a later step", []kill.Weigh{weigh(0, 1, 168, 170), low}, list(0)},
		{"more after a later step", []kill.Weigh{low, weigh(0, 1, 168, 170)}, list(0)},
		{"the middle one of three steps", []kill.Weigh{weigh(0, 0, 160, 168), weigh(0, 1, 165, 170), weigh(0, 2, 118, 130)}, list(1)},
	} {
		if set, e := kill.Leave(two(), hers(), y.seen); !slices.Equal(set, y.want) || e != api.OK {
			t.Errorf("%s: %v, %v, not %v", y.name, set, e, y.want)
		}
	}
}

// P6.2, P6.7, P6.8 of lots with too many courses.
func TestWatersBySets(t *testing.T) {
	r, fail := chance(13), 0
	for range 60 {
		h := draw(r, large)
		p := drawPlan(r, h)
		seen := drawWeighs(r, h, p, r.IntN(4), 100)
		var want [][]kill.Range
		can := true
		for i, l := range p {
			var some []kill.Range
			for _, numbers := range numbersOf(h, i, l, seen) {
				low, high := slices.Index(numbers, true), len(numbers)-1
				if low < 0 {
					can = false
					break
				}
				for !numbers[high] {
					high--
				}
				some = append(some, to(low, high))
				if slices.Contains(numbers[low:high+1], false) {
					t.Fatalf("%v, %v, %v: not all numbers from %d to %d can be", h, p, seen, low, high)
				}
			}
			want = append(want, some)
		}
		if can {
			known(t, h, p, seen, want)
			continue
		}
		fail++
		if l, e := kill.Waters(h, p, seen); len(l) > 0 || e != api.ErrFail {
			t.Fatalf("Waters of %v, %v, %v: %v, %v", h, p, seen, l, e)
		}
	}
	if fail < 5 {
		t.Errorf("only %d contradict themselves", fail)
	}
}

// P6.4, P6.5, P6.6
func TestKilledWrongAndShrinkByAllCourses(t *testing.T) {
	none, some := 0, 0
	tries(14, func(_ *rand.Rand, h kill.House, p kill.Plan, all allCourses) {
		steps, colours, e1 := kill.Killed(h, p)
		wrong, e2 := kill.Wrong(h, p)
		shrink, e3 := kill.Shrink(h, p)
		if e1 != api.OK || e2 != api.OK || e3 != api.OK || len(steps) != len(p) || len(colours) != len(p) {
			t.Fatalf("%v, %v: %v, %v, %v; %v, %v; %v, %v", h, p, steps, colours, e1, wrong, e2, shrink, e3)
		}
		for i, l := range p {
			if step, colour := killed(h, l); steps[i] != step || colours[i] != colour {
				t.Fatalf("Killed of %v, %v: %v, %v", h, p, steps, colours)
			}
		}
		want := all.wrong(h, p)
		if !slices.Equal(wrong, want) {
			t.Fatalf("Wrong of %v, %v: %v, not %v", h, p, wrong, want)
		}
		if sum := all.shrinks(); shrink != sum {
			t.Fatalf("Shrink of %v, %v: %v, not %v", h, p, shrink, sum)
		}
		if len(want) > 0 {
			none++
		} else {
			some++
		}
		for n := -1; n <= work(p)+1; n++ {
			if kill.ProvePlan(h, p, n) != (len(want) == 0 && work(p) <= n) {
				t.Fatalf("ProvePlan of %v, %v, %d", h, p, n)
			}
		}
		if kill.ProvePlan(h, p, math.MinInt) || kill.ProvePlan(h, p, math.MaxInt) != (len(want) == 0) {
			t.Fatalf("ProvePlan of %v, %v and the smallest or the greatest work", h, p)
		}
	})
	if some < 50 || none < 500 {
		t.Errorf("%d plans are right, %d are not", some, none)
	}
}

// P6.5, by hand
func TestShrink(t *testing.T) {
	for _, y := range []struct {
		name string
		p    kill.Plan
		want kill.Range
	}{
		{"nowhere", nowhere(two()), to(0, 0)},
		{"one step", lists(list(-1, 0, -1), list(-1, -1, -1)), to(10, 22)},
		{"one step of the other lot", lists(list(-1, -1, -1), list(1, -1, -1)), to(18, 24)},
		{"both", lists(list(-1, 0, -1), list(1, -1, -1)), to(28, 46)},
		{"all the time", lists(list(1, 1, 1), list(1, 1, 1)), to(30+21+14+18+12+9, 44+27+16+24+15+9)},
	} {
		if r, e := kill.Shrink(two(), y.p); r != y.want || e != api.OK {
			t.Errorf("%s: Shrink of %v: %v, %v, not %v", y.name, y.p, r, e, y.want)
		}
	}
}

// P6.6, by hand
func TestBest(t *testing.T) {
	three := kill.House{
		Places: []kill.Place{place(1, 1, 1, 0, 0), place(1, 2, 2, 0, 0)},
		Lots:   []kill.Lot{lot(1, 0, 0, 0, 0), lot(1, 0, 0, 0, 0), lot(1, 0, 0, 0, 0)}, Steps: 3,
	}
	with := func(h kill.House, change func(h *kill.House)) kill.House {
		h = clone(h)
		change(&h)
		return h
	}
	for _, y := range []struct {
		name string
		h    kill.House
		want kill.Plan
		work int
	}{
		{"one after the other", three, lists(list(-1, -1, 0), list(-1, 0, -1), list(0, -1, -1)), 3},
		{"two at a time", with(three, func(h *kill.House) { h.Places[0].Room = 2 }), lists(list(-1, -1, 0), list(-1, -1, 0), list(-1, 0, -1)), 3},
		{"all at a time", with(three, func(h *kill.House) { h.Places[0].Room = 3 }), lists(list(-1, -1, 0), list(-1, -1, 0), list(-1, -1, 0)), 3},
		{"too few steps for one place", with(three, func(h *kill.House) { h.Steps = 2 }), lists(list(-1, 0), list(0, -1), list(1, 1)), 4},
		{"the second one is black", with(three, func(h *kill.House) { h.Lots[1].Colour = 2 }), lists(list(-1, -1, 0), list(-1, 1, 1), list(-1, 0, -1)), 4},
		{"the first one is black", with(three, func(h *kill.House) { h.Lots[0].Colour = 2 }), lists(list(-1, 1, 1), list(-1, -1, 0), list(-1, 0, -1)), 4},
		{"the room of the other place", with(three, func(h *kill.House) { h.Places[0], h.Places[1].Room, h.Steps = place(1, 0, 1, 0, 0), 3, 2 }), lists(list(1, 1), list(1, 1), list(1, 1)), 6},
		{"all is dry at once", with(two(), func(h *kill.House) { h.Places[0].Loss, h.Lots[0].Limit, h.Lots[1].Limit = to(1000, 1000), 0, 0 }), lists(list(-1, 0, 0), list(0, -1, 1)), 4},
		{"a lot that is killed is dried elsewhere", with(two(), func(h *kill.House) { h.Places[0].Kill, h.Lots[1].Colour = 1, 2 }), lists(list(-1, 0, 1), list(-1, 1, 0)), 4},
	} {
		p, n, e := kill.Best(y.h)
		if !reflect.DeepEqual(p, y.want) || n != y.work || e != api.OK {
			t.Errorf("%s: Best of %v: %v, %d, %v, not %v", y.name, y.h, p, n, e, y.want)
		}
		if !kill.ProvePlan(y.h, p, n) || kill.ProvePlan(y.h, p, n-1) {
			t.Errorf("%s: ProvePlan of %v, %d", y.name, p, n)
		}
	}
}

// P6.6, P6.11: all plans are tried.
func TestBestByAllPlans(t *testing.T) {
	r := chance(15)
	var works [16]int
	none, crowded := 0, 0
	check := func(h kill.House) {
		want := best(h)
		p, n, e := kill.Best(h)
		if want == nil {
			none++
			if len(p) != 0 || n != 0 || e != api.ErrMiss {
				t.Fatalf("Best of %v: %v, %d, %v", h, p, n, e)
			}
			if alone := slices.ContainsFunc(h.Lots, func(x kill.Lot) bool { h.Lots = []kill.Lot{x}; return best(h) == nil }); !alone {
				crowded++
			}
			return
		}
		works[work(want)]++
		if !reflect.DeepEqual(p, want) || n != work(want) || e != api.OK {
			t.Fatalf("Best of %v: %v, %d, %v, not %v", h, p, n, e, want)
		}
	}
	for range 1500 {
		check(draw(r, small))
		check(draw(r, middle))
	}
	// All are in the way of each other.
	for range 1500 {
		h := draw(r, middle)
		h.Places[0].Loss = to(between(r, 200, 900), 1000)
		for i := range h.Places {
			h.Places[i].Room = 1
		}
		for i := range h.Lots {
			h.Lots[i].Limit = between(r, 300, 1000)
		}
		check(h)
	}
	if none < 500 || crowded < 30 || works[1] < 100 || works[3] < 100 || works[5] < 30 || works[7] < 5 {
		t.Errorf("none: %d, of those because all are in the way of each other %d; so many of each work: %v", none, crowded, works)
	}
}
