package prey_test

import (
	"slices"
	"testing"

	"nochez/api"
	"nochez/nest"
	"nochez/prey"
)

// P3.2: May has just the pads to which some moth can walk that is not found.
func TestMayByAllWalks(t *testing.T) {
	r, cleared := chance(11), 0
	for range 1500 {
		f := draw(r, 5)
		p := drawPlan(r, f, 4)
		want := make([][]int, len(p)+1)
		var walk func(week, pad int)
		walk = func(week, pad int) {
			if !slices.Contains(want[week], pad) {
				want[week] = append(want[week], pad)
			}
			if week == len(p) {
				return
			}
			for to := range f.Grove.Pads {
				if can(f, pad, to) && !slices.Contains(p[week], to) {
					walk(week+1, to)
				}
			}
		}
		for _, pad := range f.Start {
			walk(0, pad)
		}
		for _, l := range want {
			slices.Sort(l)
		}
		if l, e := prey.May(f, p); !same(l, want) || e != api.OK {
			t.Fatalf("May of %v, %v: %v, %v, not %v", f, p, l, e, want)
		}
		if len(want[len(p)]) == 0 {
			cleared++
		}
	}
	if cleared < 100 {
		t.Errorf("only %d plans clear the field", cleared)
	}
}

// P3.2 with as many pads and weeks as there may be.
func TestMayOfLongPlans(t *testing.T) {
	r := chance(12)
	for range 300 {
		f := draw(r, 8)
		p := drawPlan(r, f, 300)
		if l, e := prey.May(f, p); !same(l, places(f, p)) || e != api.OK {
			t.Fatalf("May of %v, %v: %v, %v", f, p, l, e)
		}
	}
	if l, e := prey.May(row(8), make([][]int, 300)); len(l) != 301 || e != api.OK {
		t.Errorf("May of 300 weeks: %d, %v", len(l), e)
	}
}

// P3.2: a week has only an effect after the moths have moved; who stays is found, too.
func TestMay(t *testing.T) {
	for _, x := range []struct {
		f    prey.Field
		p    [][]int
		want [][]int
	}{
		{on(row(5), 2), plan(list(2)), plan(list(2), list(1, 3))},
		{on(row(5), 2), plan(list(1, 3)), plan(list(2), list(2))},
		{on(row(5), 2), plan(list(1, 2, 3)), plan(list(2), nil)},
		{on(row(5), 2), plan(list(1, 2, 3), nil, nil), plan(list(2), nil, nil, nil)},
		{on(row(5), 2), plan(nil, list(0, 1)), plan(list(2), list(1, 2, 3), list(2, 3, 4))},
		{on(row(5), 0, 4), nil, plan(list(0, 4))},
		{on(row(5)), plan(nil, list(1)), plan(nil, nil, nil)},
		{on(joined(3), 0, 2), plan(nil, list(0)), plan(list(0, 2), list(0, 2), list(2))},
		{on(joined(3, nest.Join{A: 2, B: 0}), 0), plan(nil), plan(list(0), list(0, 2))},
		{on(joined(3, nest.Join{A: 2, B: 0}), 2), plan(nil), plan(list(2), list(0, 2))},
		{on(ring(8), 0), plan(nil, list(0)), plan(list(0), list(0, 1, 7), list(1, 2, 6, 7))},
	} {
		if l, e := prey.May(x.f, x.p); !same(l, x.want) || e != api.OK {
			t.Errorf("May of %v, %v: %v, %v", x.f, x.p, l, e)
		}
	}
}

// P3.3: Loss has the worst loss of all paths, and one of them that has it.
func TestLossByAllPaths(t *testing.T) {
	r, short := chance(13), 0
	for range 1500 {
		f := draw(r, 5)
		p := drawPlan(r, f, 4)
		want, all := 0, allPaths(f, p)
		for _, path := range all {
			want = max(want, eaten(f, path))
		}
		n, path, e := prey.Loss(f, p)
		isOne := slices.ContainsFunc(all, func(other []int) bool { return slices.Equal(path, other) })
		if n != want || n != worst(f, p) || !isOne || eaten(f, path) != n || e != api.OK {
			t.Fatalf("Loss of %v, %v: %d, %v, %v, not %d", f, p, n, path, e, want)
		}
		if !prey.ProvePath(f, p, path, n) || prey.ProvePath(f, p, path, n+1) {
			t.Fatalf("ProvePath of %v, %v: %v, %d", f, p, path, n)
		}
		if len(path) < len(p) {
			short++
		}
	}
	if short < 100 {
		t.Errorf("only %d worst paths end before the plan", short)
	}
}

// P3.3 with as many pads and weeks as there may be.
func TestLossOfLongPlans(t *testing.T) {
	r := chance(14)
	for range 300 {
		f := draw(r, 8)
		p := drawPlan(r, f, 300)
		n, path, e := prey.Loss(f, p)
		if n != worst(f, p) || eaten(f, path) != n || !prey.ProvePath(f, p, path, n) || e != api.OK {
			t.Fatalf("Loss of %v, %v: %d, %v, %v", f, p, n, path, e)
		}
	}
	f := full()
	f.Eats[3] = 100
	if n, path, e := prey.Loss(f, make([][]int, 300)); n != 30000 || len(path) != 300 || e != api.OK {
		t.Errorf("Loss of 300 weeks: %d, %v, %v", n, path, e)
	}
}

// Each of these plans has only one path with its worst loss.
func TestLoss(t *testing.T) {
	for _, x := range []struct {
		f    prey.Field
		p    [][]int
		loss int
		path []int
	}{
		{row(5), nil, 0, nil},
		{row(5), plan(list(0, 1, 2, 3, 4)), 5, list(4)},
		{row(5), plan(list(0, 1, 2, 3, 4), nil), 5, list(4)},
		{row(5), plan(list(3, 4), nil, nil), 11, list(3, 2, 3)},
		{on(row(5), 4), plan(list(4), list(3, 4), nil), 12, list(4, 3, 2)},
		{on(row(5), 4), plan(nil, list(3, 4), nil), 12, list(4, 3, 2)},
		{on(row(5), 4), plan(list(3), list(3, 4), list(0)), 10, list(4, 4)},
		{on(row(5), 0), plan(list(1), list(1), list(1)), 3, list(0, 0, 0)},
		{on(row(5), 0), plan(nil, nil, nil), 6, list(0, 1, 2)},
	} {
		n, path, e := prey.Loss(x.f, x.p)
		if n != x.loss || !slices.Equal(path, x.path) || e != api.OK || !prey.ProvePath(x.f, x.p, path, n) {
			t.Errorf("Loss of %v, %v: %d, %v, %v", x.f, x.p, n, path, e)
		}
	}
}

// P3.3: ProvePath holds for just the paths of the reference, and for losses up to theirs.
func TestProvePathByAllLists(t *testing.T) {
	r, holds, fails := chance(15), 0, 0
	for range 600 {
		f := draw(r, 4)
		p := drawPlan(r, f, 3)
		all := allPaths(f, p)
		pads := len(f.Grove.Pads)
		var try func(path []int)
		try = func(path []int) {
			want := slices.ContainsFunc(all, func(other []int) bool { return slices.Equal(path, other) })
			known := !slices.ContainsFunc(path, func(pad int) bool { return pad < 0 || pad >= pads })
			if got := prey.ProvePath(f, p, path, 0); got != want {
				t.Fatalf("ProvePath of %v, %v, %v: %v", f, p, path, got)
			}
			if want {
				holds++
				n := eaten(f, path)
				if !prey.ProvePath(f, p, path, n) || !prey.ProvePath(f, p, path, -5) || prey.ProvePath(f, p, path, n+1) {
					t.Fatalf("ProvePath of %v, %v, %v and its loss", f, p, path)
				}
			} else {
				fails++
			}
			if len(path) > len(p) || !known {
				return
			}
			for pad := -1; pad <= pads; pad++ {
				try(append(slices.Clone(path), pad))
			}
		}
		try(nil)
	}
	if holds < 1000 || fails < 1000 {
		t.Errorf("%d lists are paths, %d are not", holds, fails)
	}
}

func TestProvePath(t *testing.T) {
	for _, x := range []struct {
		f    prey.Field
		p    [][]int
		path []int
		loss int
		want bool
	}{
		{row(5), four(), list(4, 4, 4, 4), 20, true},
		{row(5), four(), list(4, 4, 4, 4), 21, false},
		{row(5), four(), list(4, 4, 4), 0, true}, // it can be found on 3
		{row(5), four(), list(4, 4), 0, false},   // it cannot be found on 1 or 2
		{row(5), four(), list(4, 3), 0, true},    // it moves to 2
		{row(5), four(), list(0), 0, true},
		{row(5), four(), list(2), 0, true}, // it moves to 1
		{row(5), four(), list(3), 0, false},
		{row(5), four(), list(0, 0), 0, false}, // it was picked
		{row(5), four(), list(1, 2, 2), 0, false},
		{row(5), four(), list(1, 2, 3), 0, true},
		{row(5), four(), list(2, 4), 0, false}, // no neighbours
		{row(5), four(), list(4, 4, 4, 4, 4), 0, false},
		{row(5), four(), nil, 0, false},
		{row(5), four(), list(5), 0, false},
		{row(5), four(), list(-1), 0, false},
		{row(5), four(), list(4, 4, 4, 5), 0, false},
		{row(5), four(), list(4, 4, 4, 64), 0, false},
		{on(row(5), 3), plan(nil), list(3), 4, true},
		{on(row(5), 3), plan(nil), list(4), 0, false}, // it is not on 4 at the beginning
		{on(row(5), 3), nil, nil, 0, true},
		{on(row(5), 3), nil, nil, 1, false},
		{on(row(5), 3), nil, nil, -1, true},
		{on(row(5), 3), nil, list(3), 0, false},
		{on(row(5), 3), plan(nil), nil, -1, false},
		{on(row(5)), plan(nil), list(3), 0, false},
		{on(row(5)), plan(nil), nil, 0, false},
		{on(row(5)), nil, nil, 0, true}, // without weeks there is the empty path
	} {
		if got := prey.ProvePath(x.f, x.p, x.path, x.loss); got != x.want {
			t.Errorf("ProvePath of %v, %v, %v, %d: %v", x.f, x.p, x.path, x.loss, got)
		}
	}
}

// P3.4: Clear has the first of all plans that clear the field, as far as all plans can be tried.
func TestClearByAllPlans(t *testing.T) {
	r, some := chance(16), 0
	for range 400 {
		f := draw(r, 4)
		hands := r.IntN(4)
		want, found := triedPlan(f, hands, 3)
		if again, sure := shortest(f, hands); found && (!sure || !same(want, again)) {
			t.Fatalf("the reference differs: %v, %v", want, again)
		}
		l, e := prey.Clear(f, hands)
		if found && (!same(l, want) || e != api.OK) || !found && e == api.OK && len(l) <= 3 {
			t.Fatalf("Clear of %v with %d: %v, %v, not %v", f, hands, l, e, want)
		}
		if len(want) > 1 {
			some++
		}
	}
	if some < 40 {
		t.Errorf("only %d plans have several weeks", some)
	}
}

// P3.4 and P3.5 with as many pads as there may be.
func TestClearAndHands(t *testing.T) {
	r, long := chance(17), 0
	for i := range 100 {
		f := draw(r, 8)
		if i%2 == 0 {
			f.Start = row(len(f.Eats)).Start
		}
		fewest := -1
		for hands := range 9 {
			want, found := shortest(f, hands)
			if found && fewest < 0 {
				fewest = hands
			}
			l, e := prey.Clear(f, hands)
			if !same(l, want) || (e == api.OK) != found || !found && e != api.ErrMiss || prey.ProveClear(f, l, hands) != found {
				t.Fatalf("Clear of %v with %d: %v, %v, not %v", f, hands, l, e, want)
			}
			if len(l) > 2 {
				long++
			}
		}
		if n, e := prey.Hands(f); n != fewest || e != api.OK {
			t.Fatalf("Hands of %v: %d, %v, not %d", f, n, e, fewest)
		}
	}
	if long < 30 {
		t.Errorf("only %d plans are long", long)
	}
}

func TestClear(t *testing.T) {
	for _, x := range []struct {
		f     prey.Field
		hands int
		want  [][]int
	}{
		{on(row(5)), 0, nil},
		{row(1), 8, plan(list(0))},
		{joined(3), 1, plan(list(0), list(1), list(2))},
		{joined(3), 2, plan(list(0), list(1, 2))},
		{on(joined(3), 2), 2, plan(list(2))},
		{row(5), 3, plan(list(0, 1, 2), list(2, 3, 4))},
		{row(5), 4, plan(list(0, 1), list(1, 2, 3, 4))},
		{on(ring(5), 0), 3, plan(list(0, 1, 4))},
		{ring(3), 3, plan(list(0, 1, 2))},
		{on(row(8), 7), 2, plan(list(6, 7))},
		{on(row(8), 7), 8, plan(list(6, 7))},
	} {
		if l, e := prey.Clear(x.f, x.hands); !same(l, x.want) || e != api.OK {
			t.Errorf("Clear of %v with %d: %v, %v", x.f, x.hands, l, e)
		}
	}
}

func TestHands(t *testing.T) {
	for _, x := range []struct {
		f    prey.Field
		want int
	}{
		{on(row(5)), 0}, {row(1), 1}, {row(2), 2}, {row(5), 2}, {row(8), 2}, {joined(8), 1}, {ring(3), 3}, {ring(5), 3}, {on(ring(5), 2), 3},
		{joined(4, nest.Join{A: 0, B: 1}, nest.Join{A: 0, B: 2}, nest.Join{A: 0, B: 3}, nest.Join{A: 1, B: 2}, nest.Join{A: 1, B: 3}, nest.Join{A: 2, B: 3}), 4},
	} {
		if n, e := prey.Hands(x.f); n != x.want || e != api.OK {
			t.Errorf("Hands of %v: %d, %v", x.f, n, e)
		}
	}
}

// P3.4: ProveClear holds for just the plans that leave nothing, and have so many hands.
func TestProveClear(t *testing.T) {
	for _, x := range []struct {
		f     prey.Field
		p     [][]int
		hands int
		want  bool
	}{
		{row(5), four(), 2, true},
		{row(5), four(), 8, true},
		{row(5), four(), 100, true},
		{row(5), four(), 1, false},
		{row(5), four(), -1, false},
		{row(5), four()[:3], 2, false},
		{row(5), append(four(), nil), 2, true},
		{row(5), append(four(), list(0, 1, 2)), 2, false},
		{row(5), append(four(), list(0, 1, 2)), 3, true},
		{row(5), plan(list(0, 1), list(1, 2), list(1, 2), list(3, 4)), 2, false},
		{row(5), nil, 8, false},
		{on(row(5)), nil, 0, true},
		{on(row(5)), nil, -1, false},
		{on(row(5)), plan(nil), 0, true},
		{on(row(5)), plan(list(1)), 0, false},
		{on(row(5), 4), plan(list(3, 4)), 2, true},
		{on(row(5), 4), plan(list(4)), 2, false},
	} {
		if got := prey.ProveClear(x.f, x.p, x.hands); got != x.want {
			t.Errorf("ProveClear of %v, %v, %d: %v", x.f, x.p, x.hands, got)
		}
	}
	r, clear := chance(18), 0
	for range 2000 {
		f := draw(r, 6)
		p := drawPlan(r, f, 6)
		needed := 0
		for _, week := range p {
			needed = max(needed, len(week))
		}
		want := len(places(f, p)[len(p)]) == 0
		if prey.ProveClear(f, p, needed) != want || prey.ProveClear(f, p, needed-1) {
			t.Fatalf("ProveClear of %v, %v: not %v", f, p, want)
		}
		if want {
			clear++
		}
	}
	if clear < 200 {
		t.Errorf("only %d plans clear the field", clear)
	}
}

// P3.6: Best has the first of all plans with the smallest worst loss.
func TestBestByAllPlans(t *testing.T) {
	r, picked := chance(19), 0
	for _, x := range []struct{ tries, pads, weeks int }{{150, 4, 3}, {40, 6, 2}, {3, 8, 3}} {
		for range x.tries {
			f := draw(r, x.pads)
			hands, weeks := r.IntN(3), r.IntN(x.weeks+1)
			want, loss := best(f, hands, weeks)
			l, n, e := prey.Best(f, hands, weeks)
			if !same(l, want) || n != loss || e != api.OK || len(l) != weeks {
				t.Fatalf("Best of %v with %d, %d: %v, %d, %v, not %v, %d", f, hands, weeks, l, n, e, want, loss)
			}
			if len(l) > 1 && len(l[0]) > 0 {
				picked++
			}
		}
	}
	if picked < 20 {
		t.Errorf("only %d plans pick something", picked)
	}
}

func TestBest(t *testing.T) {
	nothing := row(5)
	nothing.Eats = make([]int, 5)
	for _, x := range []struct {
		f            prey.Field
		hands, weeks int
		want         [][]int
		loss         int
	}{
		{row(5), 0, 0, nil, 0},
		{row(5), 2, 0, nil, 0},
		{row(5), 0, 3, plan(nil, nil, nil), 15},
		{row(5), 2, 2, plan(list(3, 4), nil), 7},
		{row(5), 1, 2, plan(list(4), nil), 9},
		{on(row(5), 0), 2, 3, plan(list(0, 1), nil, nil), 1},
		{on(row(5), 0), 1, 3, plan(list(1), list(1), nil), 3},
		{nothing, 2, 3, plan(nil, nil, nil), 0},
		{row(1), 2, 3, plan(list(0), nil, nil), 1},
	} {
		if l, n, e := prey.Best(x.f, x.hands, x.weeks); !same(l, x.want) || n != x.loss || e != api.OK {
			t.Errorf("Best of %v with %d, %d: %v, %d, %v", x.f, x.hands, x.weeks, l, n, e)
		}
	}
	hungry := full()
	for pad := range hungry.Eats {
		hungry.Eats[pad] = 100
	}
	if l, n, e := prey.Best(hungry, 0, 3); !same(l, plan(nil, nil, nil)) || n != 300 || e != api.OK {
		t.Errorf("Best of the greatest numbers: %v, %d, %v", l, n, e)
	}
}
