package kill_test

import (
	"math/rand/v2"
	"slices"
	"testing"

	"nochez/api"
	"nochez/kill"
)

// houses calls a function with houses of all sizes, and a plan of each.
func houses(seed uint64, call func(r *rand.Rand, h kill.House, p kill.Plan)) {
	r := chance(seed)
	for _, z := range []size{small, middle, large} {
		for range 300 {
			h := draw(r, z)
			call(r, h, drawPlan(r, h))
		}
	}
}

// weighings calls a function with houses of all sizes, a plan and weighings of each, which contradict each other or not.
func weighings(seed uint64, most int, call func(r *rand.Rand, h kill.House, p kill.Plan, seen []kill.Weigh)) {
	houses(seed, func(r *rand.Rand, h kill.House, p kill.Plan) {
		call(r, h, p, drawWeighs(r, h, p, r.IntN(most+1), []int{3, 30, 300}[r.IntN(3)]))
	})
}

// shaped reports whether there is one element for each lot and step.
func shaped[T any](h kill.House, all [][]T) bool {
	return len(all) == len(h.Lots) && !slices.ContainsFunc(all, func(l []T) bool { return len(l) != h.Steps })
}

// watersOf returns the bounds of the water of all lots, and whether there are some.
func watersOf(t *testing.T, h kill.House, p kill.Plan, seen []kill.Weigh) ([][]kill.Range, bool) {
	t.Helper()
	all, e := kill.Waters(h, p, seen)
	if e != api.OK && e != api.ErrFail || e == api.OK && !shaped(h, all) {
		t.Fatalf("Waters of %v, %v, %v: %v, %v", h, p, seen, all, e)
	}
	return all, e == api.OK
}

// with adds a weighing.
func with(seen []kill.Weigh, x kill.Weigh) []kill.Weigh {
	return append(slices.Clone(seen), x)
}

// lost returns what all lots weigh less at the end of a truth.
func lost(t kill.Truth, water [][]int) (n int) {
	for i, l := range water {
		n += t.Water[i] - l[len(l)-1]
	}
	return n
}

// P6.7, P2, P4: whatever goes off, it is within all bounds.
func TestWhateverGoesOff(t *testing.T) {
	weighings(21, 6, func(r *rand.Rand, h kill.House, p kill.Plan, seen []kill.Weigh) {
		shrink, e := kill.Shrink(h, p)
		if e != api.OK {
			t.Fatalf("Shrink of %v, %v: %v", h, p, e)
		}
		for range 5 {
			x := drawTruth(r, h, p)
			water, can, e := kill.Play(h, p, x)
			if !can || e != api.OK || !shaped(h, water) || !in(shrink, lost(x, water)) {
				t.Fatalf("%v, %v: %v is %v, %v, %v; it shrinks by %v", h, p, x, water, can, e, shrink)
			}
			off := 0
			for _, l := range x.Off {
				for _, n := range l {
					off += n
				}
			}
			if off != lost(x, water) {
				t.Fatalf("%v, %v: %v is %v", h, p, x, water)
			}
			seen = slices.DeleteFunc(seen, func(y kill.Weigh) bool { return !in(y.Weight, h.Lots[y.Lot].Dry+water[y.Lot][y.Step]) })
			all, can := watersOf(t, h, p, seen)
			if !can {
				t.Fatalf("%v, %v, %v: a contradiction, but %v is a truth", h, p, seen, x)
			}
			for i, l := range water {
				for step, n := range l {
					if !in(all[i][step], n) {
						t.Fatalf("%v, %v, %v: %v is not within %v", h, p, seen, water, all)
					}
				}
			}
		}
	})
}

// P6.8, P2
func TestEndsOfWaters(t *testing.T) {
	some := 0
	weighings(22, 5, func(r *rand.Rand, h kill.House, p kill.Plan, seen []kill.Weigh) {
		all, can := watersOf(t, h, p, seen)
		if !can {
			return
		}
		some++
		for i, l := range all {
			for step, b := range l {
				dry := h.Lots[i].Dry
				for _, n := range list(b.Lo-1, b.Lo, between(r, b.Lo, b.Hi), b.Hi, b.Hi+1) {
					if dry+n > 2000 {
						continue
					}
					more := with(seen, weigh(i, step, dry+n, dry+n))
					set, e := kill.Leave(h, p, more)
					if _, can := watersOf(t, h, p, more); can != in(b, n) || (len(set) == 0) != can || e != api.OK {
						t.Fatalf("%v, %v, %v: %v; lot %d with %d after step %d: %v, %v, %v", h, p, seen, all, i, n, step, can, set, e)
					}
				}
			}
		}
	})
	if some < 300 {
		t.Errorf("only %d do not contradict themselves", some)
	}
}

// P6.9
func TestDrier(t *testing.T) {
	weighings(23, 6, func(r *rand.Rand, h kill.House, p kill.Plan, seen []kill.Weigh) {
		all, _ := watersOf(t, h, p, seen)
		for _, l := range all {
			for step := 1; step < len(l); step++ {
				if l[step].Lo > l[step-1].Lo || l[step].Hi > l[step-1].Hi {
					t.Fatalf("Waters of %v, %v, %v: %v", h, p, seen, all)
				}
			}
		}
		before, _ := watersOf(t, h, p, nil)
		more := clone(h)
		x := &more.Places[r.IntN(len(h.Places))].Loss
		*x = to(between(r, x.Lo, x.Hi), between(r, x.Hi, 1000))
		after, _ := watersOf(t, more, p, nil)
		for i, l := range after {
			for step, b := range l {
				if b.Lo > before[i][step].Lo || b.Hi > before[i][step].Hi {
					t.Fatalf("%v, %v: %v; with more loss %v: %v", h, p, before, more, after)
				}
			}
		}
	})
}

// P6.10
func TestOneMoreWeighing(t *testing.T) {
	some, more := 0, 0
	weighings(24, 5, func(r *rand.Rand, h kill.House, p kill.Plan, seen []kill.Weigh) {
		longer := with(seen, drawWeigh(r, h, p, drawTruth(r, h, p), 30))
		one, e := kill.Leave(h, p, seen)
		two, f := kill.Leave(h, p, longer)
		if e != api.OK || f != api.OK || len(two) < len(one) || len(two) > len(one)+1 {
			t.Fatalf("Leave of %v, %v, %v: %v, %v; of %v: %v, %v", h, p, seen, one, e, longer, two, f)
		}
		if len(two) > len(one) {
			more++
		}
		before, can := watersOf(t, h, p, seen)
		after, still := watersOf(t, h, p, longer)
		if can != (len(one) == 0) || still != (len(two) == 0) {
			t.Fatalf("%v, %v: %v, %v; %v, %v", h, p, seen, one, longer, two)
		}
		if !still {
			return
		}
		some++
		for i, l := range after {
			for step, b := range l {
				if !inside(b, before[i][step]) {
					t.Fatalf("Waters of %v, %v, %v: %v; of %v: %v", h, p, seen, before, longer, after)
				}
			}
		}
	})
	if some < 100 || more < 100 {
		t.Errorf("%d do not contradict themselves, %d need one more", some, more)
	}
}

// P6.15, P6: any set is tried, by the package's own word for what contradicts itself.
func TestLeftOut(t *testing.T) {
	var lengths [7]int
	weighings(25, 6, func(_ *rand.Rand, h kill.House, p kill.Plan, seen []kill.Weigh) {
		set, e := kill.Leave(h, p, seen)
		if e != api.OK {
			t.Fatalf("Leave of %v, %v, %v: %v, %v", h, p, seen, set, e)
		}
		lengths[len(set)]++
		for _, other := range sets(len(seen)) {
			_, can := watersOf(t, h, p, without(seen, other))
			if slices.Equal(other, set) {
				if !can {
					t.Fatalf("%v, %v, %v: %v cannot be left out", h, p, seen, set)
				}
				return
			}
			if can {
				t.Fatalf("Leave of %v, %v, %v: %v, but %v can be left out", h, p, seen, set, other)
			}
		}
		t.Fatalf("Leave of %v, %v, %v: %v", h, p, seen, set)
	})
	if lengths[0] < 100 || lengths[1] < 100 || lengths[2] < 30 || lengths[3] < 5 {
		t.Errorf("so many sets of each length: %v", lengths)
	}
}

// moved lists weighings in another order.
func moved(r *rand.Rand, seen []kill.Weigh) []kill.Weigh {
	other := make([]kill.Weigh, len(seen))
	for i, k := range r.Perm(len(seen)) {
		other[k] = seen[i]
	}
	return other
}

// P7
func TestAnyOrder(t *testing.T) {
	weighings(26, 6, func(r *rand.Rand, h kill.House, p kill.Plan, seen []kill.Weigh) {
		other := moved(r, seen)
		one, e := kill.Leave(h, p, seen)
		two, f := kill.Leave(h, p, other)
		if len(one) != len(two) || e != f {
			t.Fatalf("Leave of %v, %v, %v: %v, %v; in another order: %v, %v", h, p, seen, one, e, two, f)
		}
		before, can := watersOf(t, h, p, seen)
		if after, still := watersOf(t, h, p, other); can != still || !slices.EqualFunc(before, after, slices.Equal) {
			t.Fatalf("Waters of %v, %v, %v: %v; in another order: %v", h, p, seen, before, after)
		}
	})
}

// bestOf returns the best plan and its work, if there is one.
func bestOf(t *testing.T, h kill.House) (p kill.Plan, n int, can bool) {
	t.Helper()
	p, n, e := kill.Best(h)
	if e != api.OK && e != api.ErrMiss || e == api.OK && (!shaped(h, p) || n != work(p) || !roomFor(h, p)) {
		t.Fatalf("Best of %v: %v, %d, %v", h, p, n, e)
	}
	return p, n, e == api.OK
}

// changed changes some entries of a plan.
func changed(r *rand.Rand, h kill.House, p kill.Plan) kill.Plan {
	p = copied(p)
	for range between(r, 1, 3) {
		p[r.IntN(len(p))][r.IntN(h.Steps)] = between(r, kill.None, len(h.Places)-1)
	}
	return p
}

// P6.11, P3, P5
func TestNoBetterPlan(t *testing.T) {
	some, others := 0, 0
	houses(27, func(r *rand.Rand, h kill.House, drawn kill.Plan) {
		p, n, can := bestOf(t, h)
		if !can {
			for range 20 {
				if other := changed(r, h, drawn); kill.ProvePlan(h, other, 15) {
					t.Fatalf("Best of %v has none, but %v is right", h, other)
				}
			}
			return
		}
		some++
		wrong, e := kill.Wrong(h, p)
		if len(wrong) > 0 || e != api.OK || !kill.ProvePlan(h, p, n) || kill.ProvePlan(h, p, n-1) {
			t.Fatalf("Best of %v: %v, %d, but Wrong: %v, %v", h, p, n, wrong, e)
		}
		for range 10 {
			water, can, e := kill.Play(h, p, drawTruth(r, h, p))
			if !can || e != api.OK {
				t.Fatalf("Play of %v, %v: %v, %v", h, p, can, e)
			}
			for i, l := range water {
				if !good(h, i, p[i]) || !dry(h.Lots[i], l[h.Steps-1]) {
					t.Fatalf("Best of %v: %v, but lot %d is not right with %v", h, p, i, l)
				}
			}
		}
		for k := range 100 {
			other := changed(r, h, p)
			if k%10 == 0 {
				other = drawPlan(r, h)
			}
			if !kill.ProvePlan(h, other, 15) {
				continue
			}
			others++
			if work(other) < n || work(other) == n && smaller(other, p) {
				t.Fatalf("Best of %v: %v, %d, but %v is right", h, p, n, other)
			}
		}
	})
	if some < 200 || others < 1000 {
		t.Errorf("%d have a best plan, %d others are right", some, others)
	}
}

// P6.12
func TestKilledOnce(t *testing.T) {
	some := 0
	houses(28, func(r *rand.Rand, h kill.House, p kill.Plan) {
		if h.Steps == 5 {
			return
		}
		steps, colours, e := kill.Killed(h, p)
		longer, q := h, copied(p)
		longer.Steps++
		for i := range q {
			q[i] = append(q[i], between(r, kill.None, len(h.Places)-1))
			if !roomFor(longer, q[:i+1]) {
				q[i][h.Steps] = kill.None
			}
		}
		more, others, f := kill.Killed(longer, q)
		if e != api.OK || f != api.OK || len(steps) != len(p) || len(more) != len(p) {
			t.Fatalf("Killed of %v, %v: %v, %v; %v: %v, %v", h, p, steps, e, q, more, f)
		}
		for i, step := range steps {
			if (step == kill.None) != (colours[i] == 0) || (more[i] == kill.None) != (others[i] == 0) {
				t.Fatalf("Killed of %v, %v: %v, %v; %v: %v, %v", h, p, steps, colours, q, more, others)
			}
			if step != kill.None && (more[i] != step || others[i] != colours[i]) {
				t.Fatalf("Killed of %v, %v: %v, %v; %v: %v, %v", h, p, steps, colours, q, more, others)
			}
			if step == kill.None && more[i] == h.Steps {
				some++
			}
		}
	})
	if some < 50 {
		t.Errorf("only %d are killed in the last step", some)
	}
}

// P6.13
func TestEasier(t *testing.T) {
	less, found := 0, 0
	houses(29, func(r *rand.Rand, h kill.House, _ kill.Plan) {
		_, before, can := bestOf(t, h)
		for range 4 {
			easy := clone(h)
			switch x := &easy.Lots[r.IntN(len(h.Lots))]; r.IntN(3) {
			case 0:
				x.Limit = between(r, x.Limit, 1000)
			case 1:
				y := &easy.Places[r.IntN(len(h.Places))]
				y.Room = between(r, y.Room, 3)
			case 2:
				x.Colour = 0
			}
			_, after, still := bestOf(t, easy)
			if can && (!still || after > before) {
				t.Fatalf("Best of %v: %d; of %v: %d, %v", h, before, easy, after, still)
			}
			if can && after < before {
				less++
			}
			if !can && still {
				found++
			}
		}
	})
	if less < 50 || found < 50 {
		t.Errorf("%d have less work, %d have a plan instead of none", less, found)
	}
}

// P6.14
func TestAlone(t *testing.T) {
	some := 0
	houses(30, func(_ *rand.Rand, h kill.House, _ kill.Plan) {
		_, before, can := bestOf(t, h)
		for n := len(h.Lots) - 1; n > 0 && can; n-- {
			fewer := h
			fewer.Lots = h.Lots[:n]
			_, after, still := bestOf(t, fewer)
			if !still || after > before {
				t.Fatalf("Best of %v: %d; of %v: %d, %v", h, before, fewer, after, still)
			}
			before = after
			some++
		}
	})
	if some < 100 {
		t.Errorf("only %d houses have a best plan, and more than one lot", some)
	}
}

// The bounds of Shrink are those of truths in which the least, or the most, goes off.
func TestEndsOfShrink(t *testing.T) {
	houses(34, func(_ *rand.Rand, h kill.House, p kill.Plan) {
		shrink, e := kill.Shrink(h, p)
		low, high := 0, 0
		for i, l := range p {
			few, many := h.Lots[i].Water.Lo, h.Lots[i].Water.Hi
			low += few - mostLeft(h, l, few)
			for _, x := range l {
				off := many
				for !canGo(h, x, many, off) {
					off--
				}
				high, many = high+off, many-off
			}
		}
		if shrink != to(low, high) || e != api.OK {
			t.Fatalf("Shrink of %v, %v: %v, %v, not %d to %d", h, p, shrink, e, low, high)
		}
	})
}
