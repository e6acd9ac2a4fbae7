package grow_test

import (
	"slices"
	"testing"

	"nochez/api"
	"nochez/grow"
)

// broods calls a function with broods of all sizes, with observations.
func broods(seed uint64, call func(b grow.Brood, l []grow.Seen)) {
	r := chance(seed)
	for _, z := range []size{small, round, long, large} {
		for range 60 {
			b := draw(r, z)
			call(b, drawSeen(r, b, 4))
		}
	}
}

// alone calls a function with broods of all sizes, without observations.
func alone(seed uint64, call func(b grow.Brood)) {
	broods(seed, func(b grow.Brood, _ []grow.Seen) { call(b) })
}

// answers has what the calls return that have no argument but a brood and observations.
type answers struct {
	stages, alive []grow.Range
	days          grow.Range
	surely        bool
	e, ripe       api.Errno
}

func answersOf(t *testing.T, b grow.Brood, l []grow.Seen) (a answers) {
	var f api.Errno
	a.stages, a.e = grow.Stages(b, l)
	a.alive, f = grow.Alive(b, l)
	a.days, a.surely, a.ripe = grow.Ripe(b, l)
	if a.e != f || a.e == api.OK && (len(a.stages) != len(b.Days) || len(a.alive) != len(b.Days)) || (a.e == api.ErrFail) != (a.ripe == api.ErrFail) {
		t.Fatalf("%v, %v: %v, %v", b, l, a, f)
	}
	return a
}

// P2.7, P2, P3: whatever truth is drawn, if it agrees with all observations, it is within all bounds.
func TestWhateverTheWeatherWas(t *testing.T) {
	r, agree := chance(31), 0
	broods(31, func(b grow.Brood, l []grow.Seen) {
		y, p := drawTruth(r, b)
		var some []grow.Seen
		for _, x := range l {
			if agrees(p, []grow.Seen{x}) {
				some = append(some, x)
			}
		}
		some = append(some, drawTrue(r, b, p, true))
		a := answersOf(t, b, some)
		if a.e != api.OK || !grow.ProveTruth(b, some, y) {
			t.Fatalf("%v, %v: %v does not agree: %v", b, some, y, a)
		}
		agree++
		for i := range b.Days {
			if !in(a.stages[i], p.stages[i]) || !in(a.alive[i], p.alive[i]) {
				t.Fatalf("%v, %v: %v is not within %v", b, some, y, a)
			}
		}
		ripe := ripeDay(b, p)
		if ripe < 0 && a.surely || ripe >= 0 && (a.ripe != api.OK || !in(a.days, ripe)) {
			t.Fatalf("%v, %v: %v is ripe on %d, not %v", b, some, y, ripe, a)
		}
		number := r.IntN(101)
		if d, e := grow.Safe(b, some, number); e == api.OK && (p.stages[d] != len(b.Needs) || p.alive[d] < number) {
			t.Fatalf("%v, %v: %v is not safe for %d on %d", b, some, y, number, d)
		}
	})
	if agree < 200 {
		t.Errorf("only %d truths agree", agree)
	}
}

// P2.8
func TestEnds(t *testing.T) {
	broods(32, func(b grow.Brood, l []grow.Seen) {
		a := answersOf(t, b, l)
		if a.e != api.OK {
			return
		}
		for i := range b.Days {
			for _, n := range list(a.stages[i].Lo, a.stages[i].Hi, a.stages[i].Lo-1, a.stages[i].Hi+1) {
				one(t, b, l, seen(i, n, n, 0, 100), in(a.stages[i], n))
			}
			for _, n := range list(a.alive[i].Lo, a.alive[i].Hi, a.alive[i].Lo-1, a.alive[i].Hi+1) {
				one(t, b, l, seen(i, 0, len(b.Needs), n, n), in(a.alive[i], n))
			}
			for _, most := range []bool{false, true} {
				n := a.alive[i].Lo
				if most {
					n = a.alive[i].Hi
				}
				if y, e := grow.Show(b, l, i, most); e != api.OK || !shows(b, l, y, i, n) {
					t.Fatalf("Show of %v, %v on %d, %v: %v, %v, not %d", b, l, i, most, y, e, n)
				}
			}
		}
	})
}

// one reports an error unless one more observation is not valid, or agrees with the others as it should.
func one(t *testing.T, b grow.Brood, l []grow.Seen, x grow.Seen, agree bool) {
	if x.Stage.Lo < 0 || x.Stage.Hi > len(b.Needs) || x.Alive.Lo < 0 || x.Alive.Hi > 100 {
		return
	}
	due := api.ErrFail
	if agree {
		due = api.OK
	}
	if _, e := grow.Stages(b, append(slices.Clone(l), x)); e != due {
		t.Fatalf("Stages of %v, %v, with %v: %v, not %v", b, l, x, e, due)
	}
}

// P2.9
func TestDays(t *testing.T) {
	broods(33, func(b grow.Brood, l []grow.Seen) {
		a := answersOf(t, b, l)
		for i := 1; i < len(a.stages); i++ {
			if a.stages[i].Lo < a.stages[i-1].Lo || a.stages[i].Hi < a.stages[i-1].Hi || a.alive[i].Lo > a.alive[i-1].Lo || a.alive[i].Hi > a.alive[i-1].Hi {
				t.Fatalf("%v, %v: %v", b, l, a)
			}
		}
	})
}

func inside(inner, outer grow.Range) bool { return in(outer, inner.Lo) && in(outer, inner.Hi) }

// P2.10
func TestMoreObservations(t *testing.T) {
	more := 0
	broods(34, func(b grow.Brood, l []grow.Seen) {
		for n := range l {
			before, after := answersOf(t, b, l[:n]), answersOf(t, b, l[:n+1])
			one, _ := grow.Leave(b, l[:n])
			two, e := grow.Leave(b, l[:n+1])
			if e != api.OK || len(two) < len(one) || len(two) > len(one)+1 || before.e != api.OK && after.e == api.OK {
				t.Fatalf("%v, %v: %v have to be left out, with one more %v", b, l[:n+1], one, two)
			}
			if after.e != api.OK {
				continue
			}
			more++
			for i := range b.Days {
				if !inside(after.stages[i], before.stages[i]) || !inside(after.alive[i], before.alive[i]) {
					t.Fatalf("%v, %v: %v, with one more %v", b, l[:n+1], before, after)
				}
			}
			if after.ripe == api.OK && (before.ripe != api.OK || !inside(after.days, before.days)) || before.surely && !after.surely {
				t.Fatalf("%v, %v: %v, with one more %v", b, l[:n+1], before, after)
			}
		}
	})
	if more < 200 {
		t.Errorf("only %d observations more", more)
	}
}

// P2.11
func TestLeftOut(t *testing.T) {
	contradict := 0
	broods(35, func(b grow.Brood, l []grow.Seen) {
		set, e := grow.Leave(b, l)
		if e != api.OK {
			t.Fatalf("Leave of %v, %v: %v", b, l, e)
		}
		if len(set) > 0 {
			contradict++
		}
		for _, other := range sets(len(l)) {
			_, e := grow.Stages(b, without(l, other))
			if slices.Equal(other, set) {
				if e != api.OK {
					t.Fatalf("%v, %v: without %v %v", b, l, set, e)
				}
				return
			}
			if e == api.OK {
				t.Fatalf("%v, %v: %v have to be left out, but %v can be", b, l, set, other)
			}
		}
	})
	if contradict < 40 {
		t.Errorf("only %d contradict each other", contradict)
	}
}

// P2.12
func TestWarmer(t *testing.T) {
	r := chance(36)
	alone(36, func(b grow.Brood) {
		c, i := clone(b), r.IntN(len(b.Days))
		w := b.Days[i].Warmth
		high := between(r, w.Hi, 10)
		c.Days[i].Warmth = to(between(r, w.Lo, high), high)
		before, after := answersOf(t, b, nil), answersOf(t, c, nil)
		for k := range b.Days {
			if after.stages[k].Lo < before.stages[k].Lo || after.stages[k].Hi < before.stages[k].Hi {
				t.Fatalf("%v: %v; with %v on %d: %v", b, before, c.Days[i].Warmth, i, after)
			}
		}
		if before.ripe == api.OK && (after.ripe != api.OK || after.days.Lo > before.days.Lo) || before.surely && (!after.surely || after.days.Hi > before.days.Hi) {
			t.Fatalf("%v: %v; with %v on %d: %v", b, before, c.Days[i].Warmth, i, after)
		}
	})
}

// P2.13
func TestNoLosses(t *testing.T) {
	alone(37, func(b grow.Brood) {
		for i := range b.Days {
			b.Days[i].Loss = to(0, 0)
		}
		for i, r := range answersOf(t, b, nil).alive {
			if r != b.Number {
				t.Fatalf("%v: %v on %d", b, r, i)
			}
		}
	})
}

// P2.14
func TestSafeForFewer(t *testing.T) {
	r, safe := chance(38), 0
	broods(38, func(b grow.Brood, l []grow.Seen) {
		a := answersOf(t, b, l)
		if a.e != api.OK {
			return
		}
		number := r.IntN(101)
		if r.IntN(2) == 0 {
			number = a.alive[len(a.alive)-1].Lo
		}
		d, e := grow.Safe(b, l, number)
		if e != api.OK {
			d = len(b.Days)
		} else {
			safe++
		}
		fewer, f := grow.Safe(b, l, r.IntN(number+1))
		if e == api.OK && (f != api.OK || fewer > d) {
			t.Fatalf("%v, %v: %d is safe for %d; for fewer %d, %v", b, l, d, number, fewer, f)
		}
		for i := range d {
			if a.stages[i].Lo == len(b.Needs) && a.alive[i].Lo >= number {
				t.Fatalf("%v, %v: %d is safe for %d, not %d", b, l, i, number, d)
			}
		}
	})
	if safe < 40 {
		t.Errorf("only %d days are safe", safe)
	}
}

// P2.15
func TestMoreInsects(t *testing.T) {
	r := chance(39)
	alone(39, func(b grow.Brood) {
		c, more := clone(b), r.IntN(101-b.Number.Hi)
		c.Number = to(b.Number.Lo+more, b.Number.Hi+more)
		before, after := answersOf(t, b, nil), answersOf(t, c, nil)
		for i, one := range before.alive {
			two := after.alive[i]
			if two.Lo < one.Lo || two.Hi < one.Hi || two.Lo > one.Lo+more || two.Hi > one.Hi+more {
				t.Fatalf("%v: %v; with %d more %v", b, before.alive, more, after.alive)
			}
		}
		if !slices.Equal(before.stages, after.stages) {
			t.Fatalf("%v: %v; with %d more %v", b, before.stages, more, after.stages)
		}
	})
}

// P4: what Show returns adds up: the number at first is what is alive in the end, and all the dead.
func TestAllInsects(t *testing.T) {
	broods(40, func(b grow.Brood, l []grow.Seen) {
		y, e := grow.Show(b, l, len(b.Days)-1, true)
		if e != api.OK {
			return
		}
		_, alive, can, f := grow.Play(b, y)
		all := alive[len(alive)-1]
		for _, n := range y.Dead {
			all += n
		}
		if all != y.Number || !can || f != api.OK {
			t.Fatalf("%v, %v: %v, of which %v are alive", b, l, y, alive)
		}
	})
}
