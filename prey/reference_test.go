package prey_test

import (
	"math/rand/v2"
	"slices"

	"nochez/nest"
	"nochez/prey"
)

// The reference tries everything out, by the words of the definitions, and calls nothing of the package.

func list(l ...int) []int { return l }

func plan(l ...[]int) [][]int { return l }

// joined is a field of so many pads that are joined so; a moth may be on all of them, and eats one more on each next pad.
func joined(pads int, joins ...nest.Join) prey.Field {
	f := prey.Field{Grove: nest.Grove{Joins: joins, Kinds: make([]nest.Kind, 1)}}
	for p := range pads {
		f.Grove.Pads = append(f.Grove.Pads, nest.Pad{})
		f.Start, f.Eats = append(f.Start, p), append(f.Eats, p+1)
	}
	return f
}

// row is the field of the chapter's examples, with so many pads.
func row(pads int) prey.Field {
	f := joined(pads)
	for p := range pads - 1 {
		f.Grove.Joins = append(f.Grove.Joins, nest.Join{A: p, B: p + 1})
	}
	return f
}

// ring has a join more than row.
func ring(pads int) prey.Field {
	f := row(pads)
	f.Grove.Joins = append(f.Grove.Joins, nest.Join{A: pads - 1, B: 0})
	return f
}

// on puts the moths on some pads.
func on(f prey.Field, start ...int) prey.Field {
	f.Start = start
	return f
}

// clone copies a field, so that it can be changed.
func clone(f prey.Field) prey.Field {
	g := f.Grove
	return prey.Field{
		Grove: nest.Grove{Pads: slices.Clone(g.Pads), Joins: slices.Clone(g.Joins), Kinds: slices.Clone(g.Kinds)},
		Start: slices.Clone(f.Start), Eats: slices.Clone(f.Eats),
	}
}

func same(a, b [][]int) bool { return slices.EqualFunc(a, b, slices.Equal) }

// can reports whether a moth stays on a pad, or moves to a neighbour, if it goes from one to the other.
func can(f prey.Field, from, to int) bool {
	return from == to || slices.Contains(f.Grove.Joins, nest.Join{A: from, B: to}) || slices.Contains(f.Grove.Joins, nest.Join{A: to, B: from})
}

// paths calls a function with each path for a plan.
func paths(f prey.Field, plan [][]int, call func([]int)) {
	if len(plan) == 0 {
		call(nil)
		return
	}
	var walk func(path []int)
	walk = func(path []int) {
		week := len(path) - 1
		found := false
		for pad := range f.Grove.Pads {
			if !can(f, path[week], pad) {
				continue
			}
			if slices.Contains(plan[week], pad) {
				found = true
			} else if week+1 < len(plan) {
				walk(append(slices.Clone(path), pad))
			}
		}
		if found || week+1 == len(plan) {
			call(path)
		}
	}
	for _, pad := range f.Start {
		walk(list(pad))
	}
}

// allPaths has each path for a plan.
func allPaths(f prey.Field, plan [][]int) (all [][]int) {
	paths(f, plan, func(path []int) { all = append(all, path) })
	return all
}

func eaten(f prey.Field, path []int) (loss int) {
	for _, pad := range path {
		loss += f.Eats[pad]
	}
	return loss
}

// step returns the pads on which a moth may be after one more week, in increasing order.
func step(f prey.Field, before, picked []int) (after []int) {
	for pad := range f.Grove.Pads {
		reached := slices.ContainsFunc(before, func(from int) bool { return can(f, from, pad) })
		if reached && !slices.Contains(picked, pad) {
			after = append(after, pad)
		}
	}
	return after
}

// places has the lists of May.
func places(f prey.Field, plan [][]int) [][]int {
	all := [][]int{f.Start}
	for _, picked := range plan {
		all = append(all, step(f, all[len(all)-1], picked))
	}
	return all
}

// worst returns the worst loss of a plan, for fields with more paths than can be tried: week by week, the most that a moth on a pad can have eaten.
func worst(f prey.Field, plan [][]int) (loss int) {
	most := map[int]int{}
	for _, pad := range f.Start {
		most[pad] = 0
	}
	for _, picked := range plan {
		next := map[int]int{}
		for from, before := range most {
			eaten := before + f.Eats[from]
			loss = max(loss, eaten)
			for pad := range f.Grove.Pads {
				if can(f, from, pad) && !slices.Contains(picked, pad) {
					next[pad] = max(next[pad], eaten)
				}
			}
		}
		most = next
	}
	return loss
}

// isBefore compares two weeks.
func isBefore(a, b []int) bool {
	if len(a) != len(b) {
		return len(a) < len(b)
	}
	for i := range a {
		if a[i] != b[i] {
			return a[i] < b[i]
		}
	}
	return false
}

// planBefore compares two plans with as many weeks.
func planBefore(a, b [][]int) bool {
	for i := range a {
		if !slices.Equal(a[i], b[i]) {
			return isBefore(a[i], b[i])
		}
	}
	return false
}

// weeks has the weeks that need at most so many hands, in their order.
func weeks(pads, hands int) (all [][]int) {
	for bits := range 1 << pads {
		var week []int
		for pad := range pads {
			if bits>>pad&1 == 1 {
				week = append(week, pad)
			}
		}
		if len(week) <= hands {
			all = append(all, week)
		}
	}
	slices.SortFunc(all, func(a, b []int) int {
		switch {
		case isBefore(a, b):
			return -1
		case isBefore(b, a):
			return 1
		}
		return 0
	})
	return all
}

// plans calls a function with each plan with so many weeks that needs at most so many hands, in their order, until it returns true.
func plans(pads, hands, length int, call func([][]int) bool) bool {
	all := weeks(pads, hands)
	var choose func(chosen [][]int) bool
	choose = func(chosen [][]int) bool {
		if len(chosen) == length {
			return call(chosen)
		}
		for _, week := range all {
			if choose(append(slices.Clone(chosen), week)) {
				return true
			}
		}
		return false
	}
	return choose(nil)
}

// triedPlan returns the shortest plan with at most so many weeks, if there is one, by trying all plans.
func triedPlan(f prey.Field, hands, most int) (found [][]int, some bool) {
	for length := range most + 1 {
		if plans(len(f.Grove.Pads), hands, length, func(p [][]int) bool {
			found = p
			return len(places(f, p)[length]) == 0
		}) {
			return found, true
		}
	}
	return nil, false
}

// shortest returns the shortest plan, if there is one: for each list of pads it finds how many weeks are needed at least, from the empty list on, and then takes the first week that needs one fewer.
func shortest(f prey.Field, hands int) (found [][]int, some bool) {
	pads := len(f.Grove.Pads)
	key := func(l []int) (bits int) {
		for _, pad := range l {
			bits |= 1 << pad
		}
		return bits
	}
	needed := map[int]int{0: 0}
	picks := weeks(pads, hands)
	for length := 1; ; length++ {
		before := len(needed)
		for _, l := range weeks(pads, pads) {
			if _, known := needed[key(l)]; known {
				continue
			}
			for _, week := range picks {
				if n, known := needed[key(step(f, l, week))]; known && n == length-1 {
					needed[key(l)] = length
					break
				}
			}
		}
		if len(needed) == before {
			break
		}
	}
	left, some := f.Start, false
	if _, some = needed[key(left)]; !some {
		return nil, false
	}
	for needed[key(left)] > 0 {
		for _, week := range picks {
			after := step(f, left, week)
			if n, known := needed[key(after)]; known && n < needed[key(left)] {
				found, left = append(found, week), after
				break
			}
		}
	}
	return found, true
}

// best returns the best plan, and its worst loss, by trying all plans.
func best(f prey.Field, hands, length int) (found [][]int, loss int) {
	loss = -1
	plans(len(f.Grove.Pads), hands, length, func(p [][]int) bool {
		if n := worst(f, p); loss < 0 || n < loss {
			found, loss = p, n
		}
		return false
	})
	return found, loss
}

func chance(seed uint64) *rand.Rand { return rand.New(rand.NewPCG(seed, 3)) }

func between(r *rand.Rand, low, high int) int { return low + r.IntN(high-low+1) }

// drawPads draws an increasing list of pads, each of which is in it once in so many cases.
func drawPads(r *rand.Rand, pads, in int) (l []int) {
	for pad := range pads {
		if r.IntN(in) == 0 {
			l = append(l, pad)
		}
	}
	return l
}

// draw draws a valid field with at most so many pads; a moth may be on some pad.
func draw(r *rand.Rand, most int) (f prey.Field) {
	pads, density := between(r, 1, most), between(r, 2, 6)
	for range pads {
		need := r.IntN(1001)
		f.Grove.Pads = append(f.Grove.Pads, nest.Pad{Need: need, Room: between(r, need, 1000)})
		f.Eats = append(f.Eats, r.IntN([]int{3, 11, 101}[r.IntN(3)]))
	}
	for a := range pads {
		for b := range a {
			if len(f.Grove.Joins) < 16 && r.IntN(density) == 0 {
				j := nest.Join{A: a, B: b}
				if r.IntN(2) == 0 {
					j = nest.Join{A: b, B: a}
				}
				f.Grove.Joins = append(f.Grove.Joins, j)
			}
		}
	}
	r.Shuffle(len(f.Grove.Joins), func(i, j int) {
		f.Grove.Joins[i], f.Grove.Joins[j] = f.Grove.Joins[j], f.Grove.Joins[i]
	})
	f.Grove.Kinds = make([]nest.Kind, between(r, 1, 3))
	for len(f.Start) == 0 {
		f.Start = drawPads(r, pads, between(r, 1, 4))
	}
	return f
}

// drawPlan draws a plan for a field.
func drawPlan(r *rand.Rand, f prey.Field, most int) (p [][]int) {
	in := between(r, 1, 5)
	for range r.IntN(most + 1) {
		p = append(p, drawPads(r, len(f.Grove.Pads), in))
	}
	return p
}
