package crop_test

import (
	"math"
	"math/rand/v2"
	"slices"
	"testing"

	"nochez/api"
	"nochez/crop"
	"nochez/grow"
)

// P4.1: each of these plays shows one rule of the definition.
func TestPlay(t *testing.T) {
	one := func(x crop.Terrace, weather ...int) crop.Season {
		return crop.Season{Terraces: terraces(x), Days: len(weather), Pickers: 2, Weathers: plan(weather)}
	}
	for _, x := range []struct {
		name  string
		s     crop.Season
		p     [][]int
		taken [][]int
		left  []int
	}{
		{"picked before it grows", one(terrace(10, 20, 0, 20), 5), plan(list(0)), plan(list(10)), list(5)},
		{"not picked", one(terrace(10, 20, 0, 20), 5), plan(nil), plan(nil), list(15)},
		{"at most Hand", one(terrace(10, 20, 0, 4), 5), plan(list(0)), plan(list(4)), list(11)},
		{"just Hand", one(terrace(10, 20, 6, 4), 5), plan(list(0)), plan(list(4)), list(11)},
		{"all but Left", one(terrace(10, 20, 7, 20), 5), plan(list(0)), plan(list(3)), list(12)},
		{"just Left", one(terrace(10, 20, 10, 20), 5), plan(list(0)), plan(list(0)), list(15)},
		{"less than Left", one(terrace(10, 20, 12, 20), 5, 5), plan(list(0), list(0)), plan(list(0), list(3)), list(17)},
		{"no hand", one(terrace(10, 20, 0, 0), 5), plan(list(0)), plan(list(0)), list(15)},
		{"up to Most", one(terrace(18, 20, 0, 5), 5, 5), plan(nil, list(0)), plan(nil, list(5)), list(20)},
		{"just Most", one(terrace(15, 20, 0, 5), 5, 0), plan(nil, list(0)), plan(nil, list(5)), list(15)},
		{"Most 0", one(terrace(0, 0, 0, 60), 20, 20), plan(list(0), list(0)), plan(list(0), list(0)), list(0)},
		{"the most", one(terrace(60, 60, 0, 60), 20, 20, 20, 20, 20), plan(list(0), nil, nil, nil, list(0)), plan(list(60), nil, nil, nil, list(60)), list(20)},
		{"the last growth counts", one(terrace(0, 20, 0, 9), 3, 4), plan(list(0), list(0)), plan(list(0), list(3)), list(4)},
		{"one hand each", still(1, 2, terrace(9, 9, 0, 4), terrace(8, 9, 0, 6)), plan(list(0, 1)), plan(list(4, 6)), list(5, 2)},
		{"in the order of the list", still(2, 2, terrace(9, 9, 9, 9), terrace(1, 9, 0, 9), terrace(7, 9, 5, 9)), plan(list(1, 2), list(0, 2)), plan(list(1, 2), list(0, 0)), list(9, 0, 5)},
	} {
		taken, left, e := crop.Play(x.s, x.p, 0)
		if !same(taken, x.taken) || !slices.Equal(left, x.left) || e != api.OK {
			t.Errorf("%s: Play of %v, %v: %v, %v, %v", x.name, x.s, x.p, taken, left, e)
		}
	}
}

// P4.1
func TestPlayByTheReference(t *testing.T) {
	seasons(11, func(_ *rand.Rand, s crop.Season, p [][]int) {
		for w := range s.Weathers {
			taken, left, e := crop.Play(s, p, w)
			wantTaken, wantLeft := played(s, p, w)
			if !same(taken, wantTaken) || !slices.Equal(left, wantLeft) || e != api.OK {
				t.Fatalf("Play of %v, %v in %d: %v, %v, %v, not %v, %v", s, p, w, taken, left, e, wantTaken, wantLeft)
			}
		}
	})
}

// P4.2
func TestWorst(t *testing.T) {
	// What has grown on the first day of three is taken on the second one.
	grown := func(l ...int) crop.Season {
		s := crop.Season{Terraces: terraces(terrace(0, 60, 0, 60)), Days: 3, Pickers: 1}
		for _, n := range l {
			s.Weathers = append(s.Weathers, list(n, 20, 20))
		}
		return s
	}
	p := plan(nil, list(0), nil)
	for _, x := range []struct {
		weathers         []int
		harvest, weather int
	}{
		{list(7), 7, 0}, {list(7, 8), 7, 0}, {list(8, 7), 7, 1}, {list(7, 7), 7, 0}, {list(9, 7, 7), 7, 1},
		{list(9, 8, 7), 7, 2}, {list(9, 8, 10, 7), 7, 3}, {list(9, 9, 7, 7), 7, 2}, {list(0, 5, 0, 5), 0, 0}, {list(5, 6, 0, 0), 0, 2},
	} {
		n, w, e := crop.Worst(grown(x.weathers...), p)
		if n != x.harvest || w != x.weather || e != api.OK {
			t.Errorf("Worst with %v: %d, %d, %v", x.weathers, n, w, e)
		}
	}
}

// P4.2
func TestWorstAndItsProof(t *testing.T) {
	r, later := chance(12), 0
	for range 3000 {
		s := draw(r, 5)
		p := drawPlan(r, s)
		n, w, e := crop.Worst(s, p)
		if want, first := worst(s, p); n != want || w != first || e != api.OK {
			t.Fatalf("Worst of %v, %v: %d, %d, %v, not %d, %d", s, p, n, w, e, want, first)
		}
		for _, least := range list(n, n-1, 0, -1, math.MinInt, between(r, -9, n)) {
			if !crop.ProveWorst(s, p, least) {
				t.Fatalf("ProveWorst of %v, %v, %d: not so", s, p, least)
			}
		}
		for _, least := range list(n+1, n+between(r, 1, 99), math.MaxInt) {
			if crop.ProveWorst(s, p, least) {
				t.Fatalf("ProveWorst of %v, %v, %d, but it is %d", s, p, least, n)
			}
		}
		if w > 0 {
			later++
		}
	}
	if later < 100 {
		t.Errorf("only %d plans are worst in a later weather", later)
	}
}

// P4.3: of several plans that are as good, the one that is smaller at the first day, with the shorter list, with the smaller index.
func TestBest(t *testing.T) {
	five := terrace(5, 5, 0, 5)
	for _, x := range []struct {
		name    string
		s       crop.Season
		p       [][]int
		harvest int
	}{
		{"nothing to take", still(3, 2, terrace(5, 5, 5, 5), terrace(4, 9, 9, 9)), plan(nil, nil, nil), 0},
		{"no hand", still(2, 2, terrace(5, 5, 0, 0)), plan(nil, nil), 0},
		{"no pickers", still(2, 0, five, five), plan(nil, nil), 0},
		{"as late as possible", still(3, 1, five), plan(nil, nil, list(0)), 5},
		{"two pickers, as late as possible", still(3, 2, five, five), plan(nil, nil, list(0, 1)), 10},
		{"the first of two alike", still(2, 1, five, five), plan(list(0), list(1)), 10},
		{"the first of three alike", still(1, 1, five, five, five), plan(list(0)), 5},
		{"the first two of three alike", still(1, 2, five, five, five), plan(list(0, 1)), 10},
		{"the longer list later", still(2, 2, five, five, five), plan(list(0), list(1, 2)), 15},
		{"0 and 2 before 1 and 2", still(1, 2, terrace(4, 5, 0, 5), terrace(4, 5, 0, 5), five), plan(list(0, 2)), 9},
		{"the better of two", still(1, 1, terrace(4, 5, 0, 5), five), plan(list(1)), 5},
		{"the better two of three", still(1, 2, terrace(3, 5, 0, 5), five, terrace(4, 5, 0, 5)), plan(list(1, 2)), 9},
		{"again and again", still(5, 1, terrace(60, 60, 10, 10)), plan(list(0), list(0), list(0), list(0), list(0)), 50},
		{"before it is full", crop.Season{Terraces: terraces(terrace(10, 20, 0, 20)), Days: 3, Pickers: 1, Weathers: plan(list(10, 10, 10))}, plan(nil, list(0), list(0)), 30},
		{"good enough in both weathers", crop.Season{Terraces: terraces(terrace(0, 9, 0, 9), terrace(3, 3, 0, 3)), Days: 2, Pickers: 1, Weathers: plan(list(9, 0), list(0, 9))}, plan(nil, list(1)), 3},
	} {
		p, n, e := crop.Best(x.s)
		if !same(p, x.p) || n != x.harvest || e != api.OK {
			t.Errorf("%s: Best of %v: %v, %d, %v", x.name, x.s, p, n, e)
		}
	}
}

// P4.3, P5
func TestBestByAllPlans(t *testing.T) {
	r, several := chance(13), 0
	check := func(s crop.Season) {
		p, n, e := crop.Best(s)
		want, most := best(s, nil)
		if !same(p, want) || n != most || e != api.OK {
			t.Fatalf("Best of %v: %v, %d, %v, not %v, %d", s, p, n, e, want, most)
		}
		if !crop.ProveWorst(s, p, n) || crop.ProveWorst(s, p, n+1) {
			t.Fatalf("ProveWorst of %v, %v: not %d", s, p, n)
		}
		last, _ := best(reversed(s), nil)
		if len(s.Terraces) > 1 && !same(last, want) {
			several++
		}
	}
	for range 3000 {
		check(draw(r, 3))
	}
	for range 100 {
		check(draw(r, 4))
	}
	for range 25 {
		check(draw(r, 5))
	}
	if several < 500 {
		t.Errorf("only %d seasons in which the order of terraces counts", several)
	}
}

// reversed lists the terraces in the other order.
func reversed(s crop.Season) crop.Season {
	s = clone(s)
	slices.Reverse(s.Terraces)
	return s
}

// P4.4
func TestAboveByAllPlans(t *testing.T) {
	r, lower := chance(14), 0
	for range 1500 {
		s := draw(r, between(r, 1, 3))
		begun := drawBegun(r, s, r.IntN(s.Days+1))
		n, e := crop.Above(s, begun)
		if _, want := best(s, begun); n != want || e != api.OK {
			t.Fatalf("Above of %v, %v: %d, %v, not %d", s, begun, n, e, want)
		}
		if _, most := best(s, nil); n < most {
			lower++
		}
	}
	if lower < 200 {
		t.Errorf("only %d beginnings are worse than the best one", lower)
	}
	for range 100 {
		s := draw(r, 5)
		begun := drawBegun(r, s, between(r, min(2, s.Days), s.Days))
		n, e := crop.Above(s, begun)
		if _, want := best(s, begun); n != want || e != api.OK {
			t.Fatalf("Above of %v, %v: %d, %v, not %d", s, begun, n, e, want)
		}
	}
}

// P4.5: a day is ready if on its evening no truth is before the last stage, or has too few insects.
func TestReadyByTheBounds(t *testing.T) {
	r, found, never, wrong := chance(15), 0, 0, 0
	for range 3000 {
		var l []crop.Field
		var want []int
		first := api.OK
		for range r.IntN(4) {
			f := drawField(r)
			l = append(l, f)
			stages, e := grow.Stages(f.Brood, f.Seen)
			alive, _ := grow.Alive(f.Brood, f.Seen)
			if first == api.OK {
				first = e
			}
			ready := -1
			for day := range stages {
				if ready < 0 && stages[day].Lo == 1 && alive[day].Lo >= f.Number {
					ready = day
				}
			}
			want = append(want, ready)
		}
		if first != api.OK {
			want = nil
			wrong++
		}
		for _, ready := range want {
			if ready < 0 {
				never++
			} else {
				found++
			}
		}
		if got, e := crop.Ready(l); !slices.Equal(got, want) || e != first {
			t.Fatalf("Ready of %v: %v, %v, not %v, %v", l, got, e, want, first)
		}
	}
	if found < 500 || never < 500 || wrong < 200 {
		t.Errorf("only %d ready days, %d times none, and %d errors", found, never, wrong)
	}
}

// P4.5
func TestReady(t *testing.T) {
	two := func(low, number int, l ...grow.Seen) crop.Field {
		f := brood(6, number, day(low, 6, 0, 0), day(3, 4, 0, 0))
		f.Seen = l
		return f
	}
	for _, x := range []struct {
		l    []crop.Field
		want []int
	}{
		{nil, nil},
		{[]crop.Field{two(6, 40)}, list(0)},
		{[]crop.Field{two(6, 41)}, list(-1)},
		{[]crop.Field{two(6, 41, seen(1, 0, 1, 41, 100))}, list(0)},
		{[]crop.Field{two(5, 40)}, list(1)},
		{[]crop.Field{two(2, 40)}, list(-1)},
		{[]crop.Field{two(2, 0, seen(0, 1, 1, 0, 100))}, list(0)},
		{[]crop.Field{two(5, 40, seen(0, 0, 0, 0, 100))}, list(1)},
		{[]crop.Field{two(2, 0), two(6, 0), two(3, 40)}, list(-1, 0, 1)},
		{[]crop.Field{two(3, 40), two(2, 0), two(2, 100)}, list(1, -1, -1)},
	} {
		if l, e := crop.Ready(x.l); !slices.Equal(l, x.want) || e != api.OK {
			t.Errorf("Ready of %v: %v, %v", x.l, l, e)
		}
	}
}
