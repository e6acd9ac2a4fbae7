package sack_test

import (
	"math/rand/v2"
	"slices"

	"nochez/api"
	"nochez/sack"
)

// The references go by the words of the definitions, and call nothing of the package. The first one tries all courses of the weight of a sack; the second one, for sacks with too many courses, goes through the sets of numbers that can be reached.

func to(low, high int) sack.Range { return sack.Range{Lo: low, Hi: high} }

func list(l ...int) []int { return l }

func lists(l ...[]int) [][]int { return l }

func row(l ...sack.Range) []sack.Range { return l }

func finds(l ...sack.Find) []sack.Find { return l }

func in(r sack.Range, n int) bool { return r.Lo <= n && n <= r.Hi }

func trip(from, into, day, days, load, low, high int) sack.Trip {
	return sack.Trip{From: from, To: into, Day: day, Days: days, Load: load, Loss: to(low, high)}
}

func bag(start, goal, due, low, high, mark int) sack.Sack {
	return sack.Sack{Start: start, Goal: goal, Due: due, Weight: to(low, high), Mark: mark}
}

func find(place, low, high, mark int) sack.Find {
	return sack.Find{Place: place, Weight: to(low, high), Mark: mark}
}

// two are the roads of the chapter's examples, hers the plan by which a sack takes each ship, his a truth of both.
func two() sack.Roads {
	return sack.Roads{
		Places: 3,
		Trips:  []sack.Trip{trip(0, 1, 1, 2, 1000, 10, 20), trip(1, 2, 4, 5, 150, 0, 50), trip(1, 2, 3, 9, 900, 0, 0)},
		Sacks:  []sack.Sack{bag(0, 2, 10, 100, 110, 1), bag(0, 2, 20, 80, 80, 2)},
	}
}

func hers() sack.Plan { return lists(list(0, 1), list(0, 2)) }

func his() sack.Truth {
	return sack.Truth{Weight: list(105, 80), Lost: lists(list(2, 5), list(1, 0))}
}

// clone copies roads, so that they can be changed.
func clone(r sack.Roads) sack.Roads {
	r.Trips, r.Sacks = slices.Clone(r.Trips), slices.Clone(r.Sacks)
	return r
}

// with returns roads that are changed.
func with(r sack.Roads, change func(r *sack.Roads)) sack.Roads {
	r = clone(r)
	change(&r)
	return r
}

// copied copies a list of lists.
func copied(p [][]int) (l [][]int) {
	for _, x := range p {
		l = append(l, slices.Clone(x))
	}
	return l
}

// nobody is the plan by which no sack takes a trip.
func nobody(r sack.Roads) sack.Plan { return make(sack.Plan, len(r.Sacks)) }

// canLose reports whether so much of a sack can be lost: more than an ounce below the least part, and less than an ounce above the greatest one, cannot be missed by rounding.
func canLose(t sack.Trip, ounces, lost int) bool {
	return 1000*(lost+1) > ounces*t.Loss.Lo && 1000*(lost-1) < ounces*t.Loss.Hi
}

// arrives returns where and when a sack comes that takes a list of trips.
func arrives(r sack.Roads, i int, l []int) (place, day int) {
	place = r.Sacks[i].Start
	for _, x := range l {
		place, day = r.Trips[x].To, r.Trips[x].Day+r.Trips[x].Days
	}
	return place, day
}

// inTime reports whether it comes to its Goal in time.
func inTime(r sack.Roads, i int, l []int) bool {
	place, day := arrives(r, i, l)
	return place == r.Sacks[i].Goal && day <= r.Sacks[i].Due
}

// played returns the weight of each sack at the end, and whether the truth is one of the roads with the plan.
func played(r sack.Roads, p sack.Plan, t sack.Truth) (weights []int, can bool) {
	can = true
	for i, l := range p {
		n := t.Weight[i]
		for k, x := range l {
			can = can && n >= 0 && canLose(r.Trips[x], n, t.Lost[i][k])
			n -= t.Lost[i][k]
		}
		weights = append(weights, n)
	}
	return weights, can
}

// courses returns all courses that the weight of a sack can take: what it is when each trip leaves, and at the end.
func courses(r sack.Roads, i int, l []int) (all [][]int) {
	var follow func(course []int)
	follow = func(course []int) {
		k, n := len(course)-1, course[len(course)-1]
		if k == len(l) {
			all = append(all, slices.Clone(course))
			return
		}
		for lost := range n + 1 {
			if canLose(r.Trips[l[k]], n, lost) {
				follow(append(course, n-lost))
			}
		}
	}
	for n := r.Sacks[i].Weight.Lo; n <= r.Sacks[i].Weight.Hi; n++ {
		follow(list(n))
	}
	return all
}

// allCourses has the courses of all sacks: a truth has one of each.
type allCourses [][][]int

func coursesOf(r sack.Roads, p sack.Plan) (all allCourses) {
	for i, l := range p {
		all = append(all, courses(r, i, l))
	}
	return all
}

// bounds returns the range of the weight of each sack at the end.
func (a allCourses) bounds() (all []sack.Range) {
	for _, some := range a {
		var ends []int
		for _, course := range some {
			ends = append(ends, course[len(course)-1])
		}
		all = append(all, to(slices.Min(ends), slices.Max(ends)))
	}
	return all
}

// over returns the trips that can be overloaded. The courses of sacks do not depend on each other.
func (a allCourses) over(r sack.Roads, p sack.Plan) (all []int) {
	for x, t := range r.Trips {
		most := 0
		for i, l := range p {
			k := slices.Index(l, x)
			if k < 0 {
				continue
			}
			weight := 0
			for _, course := range a[i] {
				weight = max(weight, course[k])
			}
			most += weight
		}
		if most > t.Load {
			all = append(all, x)
		}
	}
	return all
}

// reached has the numbers of ounces to which something in numbers can come on a trip.
func reached(t sack.Trip, numbers []bool) []bool {
	all := make([]bool, len(numbers))
	for n, is := range numbers {
		for lost := 0; is && lost <= n; lost++ {
			if canLose(t, n, lost) {
				all[n-lost] = true
			}
		}
	}
	return all
}

// numbersOf has the numbers that the weight of a sack can be, when each of its trips leaves, and at the end.
func numbersOf(r sack.Roads, i int, l []int) (all [][]bool) {
	at := make([]bool, api.MaxSackWeight+1)
	for n := range at {
		at[n] = in(r.Sacks[i].Weight, n)
	}
	all = append(all, at)
	for _, x := range l {
		at = reached(r.Trips[x], at)
		all = append(all, at)
	}
	return all
}

// spread returns the range of numbers, and whether it has no others.
func spread(numbers []bool) (sack.Range, bool) {
	low, high := slices.Index(numbers, true), len(numbers)-1
	for !numbers[high] {
		high--
	}
	return to(low, high), !slices.Contains(numbers[low:high+1], false)
}

// endsOf has for each sack the numbers that its weight can be at the end.
func endsOf(r sack.Roads, p sack.Plan) (all [][]bool) {
	for i, l := range p {
		all = append(all, numbersOf(r, i, l)[len(l)])
	}
	return all
}

// goes reports whether a sack can take these trips one after the other.
func goes(r sack.Roads, i int, l []int) bool {
	for k, x := range l {
		place, day := arrives(r, i, l[:k])
		if r.Trips[x].From != place || r.Trips[x].Day < day {
			return false
		}
	}
	return true
}

// compareLists compares lists of trips, as the best plan does.
func compareLists(a, b []int) int {
	if len(a) != len(b) {
		return len(a) - len(b)
	}
	return slices.Compare(a, b)
}

// comparePlans compares plans, sack by sack.
func comparePlans(p, q sack.Plan) int { return slices.CompareFunc(p, q, compareLists) }

// routes returns all lists of trips that a sack can take, from the smallest one on: no trip can be taken twice, since it would have to leave after it arrives.
func routes(r sack.Roads, i int) (all [][]int) {
	var extend func(l []int)
	extend = func(l []int) {
		if !goes(r, i, l) {
			return
		}
		all = append(all, slices.Clone(l))
		for x := range r.Trips {
			if !slices.Contains(l, x) {
				extend(append(l, x))
			}
		}
	}
	extend(nil)
	slices.SortFunc(all, compareLists)
	return all
}

// everyPlan calls a function with all plans, from the smallest one on; the plan is changed afterwards.
func everyPlan(r sack.Roads, call func(p sack.Plan)) {
	var all [][][]int
	for i := range r.Sacks {
		all = append(all, routes(r, i))
	}
	var extend func(p sack.Plan)
	extend = func(p sack.Plan) {
		if len(p) == len(r.Sacks) {
			call(p)
			return
		}
		for _, l := range all[len(p)] {
			extend(append(p, l))
		}
	}
	extend(nil)
}

// most is the most ounces that a sack can have when the trip with this index in its list leaves.
func most(r sack.Roads, i int, l []int, k int) int {
	n := r.Sacks[i].Weight.Hi
	for _, x := range l[:k] {
		lost := 0
		for !canLose(r.Trips[x], n, lost) {
			lost++
		}
		n -= lost
	}
	return n
}

// isRight reports whether a plan is right.
func isRight(r sack.Roads, p sack.Plan) bool {
	carried := make([]int, len(r.Trips))
	for i, l := range p {
		if !inTime(r, i, l) {
			return false
		}
		for k, x := range l {
			carried[x] += most(r, i, l, k)
			if carried[x] > r.Trips[x].Load {
				return false
			}
		}
	}
	return true
}

func daysOf(r sack.Roads, p sack.Plan) (sum int) {
	for i, l := range p {
		_, day := arrives(r, i, l)
		sum += day
	}
	return sum
}

// best returns the best plan by trying all plans, and whether there is one.
func best(r sack.Roads) (found sack.Plan, can bool) {
	everyPlan(r, func(p sack.Plan) {
		if isRight(r, p) && (!can || daysOf(r, p) < daysOf(r, found)) {
			found, can = copied(p), true
		}
	})
	return found, can
}

// canBe reports whether a find can be a sack, which can have these numbers of ounces at the end.
func canBe(r sack.Roads, p sack.Plan, ends [][]bool, x sack.Find, i int) bool {
	place, _ := arrives(r, i, p[i])
	if place != x.Place || x.Mark != 0 && x.Mark != r.Sacks[i].Mark {
		return false
	}
	for n, is := range ends[i] {
		if is && in(x.Weight, n) {
			return true
		}
	}
	return false
}

// identifications returns all identifications of finds, by counting through all lists of sacks.
func identifications(r sack.Roads, p sack.Plan, ends [][]bool, l []sack.Find) (all [][]int) {
	number := 1
	for range l {
		number *= len(r.Sacks)
	}
	for code := range number {
		var given []int
		for _, x := range l {
			i := code % len(r.Sacks)
			code /= len(r.Sacks)
			if slices.Contains(given, i) || !canBe(r, p, ends, x, i) {
				break
			}
			given = append(given, i)
		}
		if len(given) == len(l) {
			all = append(all, given)
		}
	}
	return all
}

// identified returns for each find the sacks that it has in some identification.
func identified(all [][]int, number int) [][]int {
	sacks := make([][]int, number)
	for x := range number {
		for _, given := range all {
			sacks[x] = append(sacks[x], given[x])
		}
		slices.Sort(sacks[x])
		sacks[x] = slices.Compact(sacks[x])
	}
	return sacks
}

// sets has the sets of the indexes below a number, shorter ones first, and those of the same length in lexicographic order.
func sets(length int) (all [][]int) {
	for bits := range 1 << length {
		var set []int
		for i := range length {
			if bits>>i&1 == 1 {
				set = append(set, i)
			}
		}
		all = append(all, set)
	}
	slices.SortFunc(all, compareLists)
	return all
}

// without leaves finds out.
func without(l []sack.Find, set []int) (kept []sack.Find) {
	for i, x := range l {
		if !slices.Contains(set, i) {
			kept = append(kept, x)
		}
	}
	return kept
}

// odd returns the smallest set of finds that can be left out.
func odd(r sack.Roads, p sack.Plan, ends [][]bool, l []sack.Find) []int {
	for _, set := range sets(len(l)) {
		if len(identifications(r, p, ends, without(l, set))) > 0 {
			return set
		}
	}
	panic("no finds are always possible")
}

// size bounds the roads that are drawn.
type size struct{ places, trips, sacks, ounces, wide int }

var (
	// small roads have sacks with few courses, so that all of them can be tried.
	small = size{places: 3, trips: 6, sacks: 3, ounces: 9, wide: 3}
	// busy roads have many plans, all in the way of each other.
	busy = size{places: 3, trips: 6, sacks: 4, ounces: 100, wide: 50}
	// large roads reach the limits.
	large = size{places: 5, trips: 6, sacks: 4, ounces: 1000, wide: 1000}
)

func chance(seed uint64) *rand.Rand { return rand.New(rand.NewPCG(seed, 10)) }

func between(r *rand.Rand, low, high int) int { return low + r.IntN(high-low+1) }

// within draws a range within another one that is not wider than a number.
func within(r *rand.Rand, outer sack.Range, wide int) sack.Range {
	low := between(r, outer.Lo, outer.Hi)
	return to(low, min(outer.Hi, low+r.IntN(wide+1)))
}

// drawLoss draws a Loss; often it has the one end, or the other one.
func drawLoss(r *rand.Rand) sack.Range {
	switch r.IntN(8) {
	case 0:
		return to(0, 0)
	case 1:
		return to(0, r.IntN(1001))
	case 2:
		return to(r.IntN(1001), 1000)
	case 3:
		return within(r, to(0, 1000), 1000)
	}
	return within(r, to(0, 200), 100)
}

// draw draws valid roads. Many trips begin where another one ends, and many sacks can come to their Goal in time, if they are alone.
func draw(r *rand.Rand, z size) (x sack.Roads) {
	x.Places = between(r, 2, z.places)
	for range r.IntN(z.trips) + r.IntN(2) {
		from, day := r.IntN(x.Places), r.IntN([]int{5, 15, 31}[r.IntN(3)])
		if n := len(x.Trips); n > 0 && r.IntN(2) == 0 {
			before := x.Trips[r.IntN(n)]
			from, day = before.To, min(30, before.Day+before.Days+r.IntN(3))
		}
		into := (from + between(r, 1, x.Places-1)) % x.Places
		t := sack.Trip{From: from, To: into, Day: day, Days: between(r, 1, []int{3, 10, 30}[r.IntN(3)]), Loss: drawLoss(r)}
		t.Load = min(4000, r.IntN(z.ounces*z.sacks*3/2))
		x.Trips = append(x.Trips, t)
	}
	for range between(r, 1, z.sacks) {
		s := sack.Sack{Start: r.IntN(x.Places), Due: between(r, 0, 30), Weight: within(r, to(1, z.ounces), z.wide), Mark: between(r, 1, 3)}
		if n := len(x.Trips); n > 0 && r.IntN(2) == 0 {
			s.Start, s.Due = x.Trips[r.IntN(n)].From, 30
		}
		s.Goal = r.IntN(x.Places)
		x.Sacks = append(x.Sacks, s)
		if i := len(x.Sacks) - 1; r.IntN(3) > 0 {
			all := routes(x, i)
			place, day := arrives(x, i, all[r.IntN(len(all))])
			x.Sacks[i].Goal, x.Sacks[i].Due = place, min(30, day+r.IntN(6))
		}
	}
	return x
}

// drawPlan draws a plan; often each sack is in time that can be, or a sack goes on as long as it can.
func drawPlan(r *rand.Rand, x sack.Roads) sack.Plan {
	var p sack.Plan
	early := r.IntN(2) == 0
	for i := range x.Sacks {
		all := routes(x, i)
		good := slices.DeleteFunc(slices.Clone(all), func(l []int) bool { return !inTime(x, i, l) })
		l := all[r.IntN(len(all))]
		if early && len(good) > 0 {
			l = good[r.IntN(len(good))]
		} else if r.IntN(2) == 0 {
			l = all[len(all)-1-r.IntN(min(len(all), 3))]
		}
		p = append(p, slices.Clone(l))
	}
	return p
}

// drawTruth draws a truth of roads with a plan; it is often at an end of what can be lost.
func drawTruth(r *rand.Rand, x sack.Roads, p sack.Plan) (t sack.Truth) {
	for i, l := range p {
		n := between(r, x.Sacks[i].Weight.Lo, x.Sacks[i].Weight.Hi)
		t.Weight = append(t.Weight, n)
		var gone []int
		for _, k := range l {
			var can []int
			for lost := range n + 1 {
				if canLose(x.Trips[k], n, lost) {
					can = append(can, lost)
				}
			}
			lost := can[[]int{0, len(can) - 1, r.IntN(len(can)), r.IntN(len(can))}[r.IntN(4)]]
			gone, n = append(gone, lost), n-lost
		}
		t.Lost = append(t.Lost, gone)
	}
	return t
}

// drawFinds draws so many finds: sacks as they are in a truth, in any order, with weights that are known within so much and marks that may not be read; and some that are others, or nothing.
func drawFinds(r *rand.Rand, x sack.Roads, p sack.Plan, number, wide int) (l []sack.Find) {
	weights, _ := played(x, p, drawTruth(r, x, p))
	order, wrong := r.Perm(len(p)), r.IntN(4)
	for k := range number {
		i := order[k%len(order)]
		place, _ := arrives(x, i, p[i])
		y := sack.Find{Place: place, Weight: to(max(0, weights[i]-r.IntN(wide+1)), min(1000, weights[i]+r.IntN(wide+1))), Mark: x.Sacks[i].Mark}
		if r.IntN(2) == 0 {
			y.Mark = 0
		}
		if r.IntN(5) < wrong {
			switch r.IntN(3) {
			case 0:
				y.Place = r.IntN(x.Places)
			case 1:
				y.Weight = within(r, to(0, 1000), wide)
			case 2:
				y.Mark = between(r, 1, 9)
			}
		}
		l = append(l, y)
	}
	return l
}
