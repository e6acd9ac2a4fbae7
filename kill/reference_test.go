package kill_test

import (
	"math/rand/v2"
	"slices"

	"nochez/api"
	"nochez/kill"
)

// The references go by the words of the definitions, and call nothing of the package. The first one tries all courses of the water of a lot; the second one, for lots with too many courses, goes through the sets of numbers that can be reached.

func to(low, high int) kill.Range { return kill.Range{Lo: low, Hi: high} }

func list(l ...int) []int { return l }

func lists(l ...[]int) [][]int { return l }

func row(l ...kill.Range) []kill.Range { return l }

func rows(l ...[]kill.Range) [][]kill.Range { return l }

func in(r kill.Range, n int) bool { return r.Lo <= n && n <= r.Hi }

func inside(inner, outer kill.Range) bool { return in(outer, inner.Lo) && in(outer, inner.Hi) }

func place(room, steps int, colour uint8, low, high int) kill.Place {
	return kill.Place{Room: room, Kill: steps, Colour: colour, Loss: to(low, high)}
}

func lot(dry, low, high int, colour uint8, limit int) kill.Lot {
	return kill.Lot{Dry: dry, Water: to(low, high), Colour: colour, Limit: limit}
}

func weigh(lot, step, low, high int) kill.Weigh {
	return kill.Weigh{Lot: lot, Step: step, Weight: to(low, high)}
}

// two is the house of the chapter's examples, hers its plan.
func two() kill.House {
	return kill.House{
		Places: []kill.Place{place(1, 2, 1, 100, 200), place(2, 1, 2, 300, 400)},
		Lots:   []kill.Lot{lot(80, 100, 110, 1, 1000), lot(40, 60, 60, 0, 1000)},
		Steps:  3,
	}
}

func hers() kill.Plan { return lists(list(0, 0, 1), list(-1, 1, -1)) }

// clone copies a house, so that it can be changed.
func clone(h kill.House) kill.House {
	h.Places, h.Lots = slices.Clone(h.Places), slices.Clone(h.Lots)
	return h
}

// copied copies a list of lists.
func copied(p [][]int) (l [][]int) {
	for _, x := range p {
		l = append(l, slices.Clone(x))
	}
	return l
}

// nowhere is the plan by which no lot is in a place.
func nowhere(h kill.House) (p kill.Plan) {
	for range h.Lots {
		p = append(p, slices.Repeat(list(kill.None), h.Steps))
	}
	return p
}

// canGo reports whether so much can go off: more than an ounce below the least part, and less than an ounce above the greatest one, cannot be missed by rounding.
func canGo(h kill.House, place, water, off int) bool {
	if place == kill.None {
		return off == 0
	}
	loss := h.Places[place].Loss
	return 1000*(off+1) > water*loss.Lo && 1000*(off-1) < water*loss.Hi
}

// roomFor reports whether no place has more lots than it has room for; the other places are not counted.
func roomFor(h kill.House, p kill.Plan) bool {
	for step := range h.Steps {
		for i, x := range h.Places {
			n := 0
			for _, l := range p {
				if l[step] == i {
					n++
				}
			}
			if n > x.Room {
				return false
			}
		}
	}
	return true
}

// played returns the water of each lot after each step, and whether the truth is one of the house.
func played(h kill.House, p kill.Plan, t kill.Truth) (water [][]int, can bool) {
	can = true
	for i, l := range p {
		n := t.Water[i]
		var w []int
		for step, x := range l {
			off := t.Off[i][step]
			can = can && n >= 0 && canGo(h, x, n, off)
			n -= off
			w = append(w, n)
		}
		water = append(water, w)
	}
	return water, can
}

// courses returns all courses that the water of a lot can take: what it is at first, and after each step.
func courses(h kill.House, i int, l []int) (all [][]int) {
	var follow func(course []int)
	follow = func(course []int) {
		step, water := len(course)-1, course[len(course)-1]
		if step == len(l) {
			all = append(all, slices.Clone(course))
			return
		}
		for off := range water + 1 {
			if canGo(h, l[step], water, off) {
				follow(append(course, water-off))
			}
		}
	}
	for n := h.Lots[i].Water.Lo; n <= h.Lots[i].Water.Hi; n++ {
		follow(list(n))
	}
	return all
}

// agrees reports whether a course of the water of a lot agrees with all weighings of this lot.
func agrees(h kill.House, i int, course []int, seen []kill.Weigh) bool {
	for _, x := range seen {
		if x.Lot == i && !in(x.Weight, h.Lots[i].Dry+course[x.Step+1]) {
			return false
		}
	}
	return true
}

// allCourses has the courses of all lots.
type allCourses [][][]int

func coursesOf(h kill.House, p kill.Plan) (all allCourses) {
	for i, l := range p {
		all = append(all, courses(h, i, l))
	}
	return all
}

// that returns the courses that agree with weighings, and whether each lot has some.
func (a allCourses) that(h kill.House, seen []kill.Weigh) (kept allCourses, can bool) {
	can = true
	for i, l := range a {
		var some [][]int
		for _, course := range l {
			if agrees(h, i, course, seen) {
				some = append(some, course)
			}
		}
		kept, can = append(kept, some), can && len(some) > 0
	}
	return kept, can
}

// bounds returns the range of a number of some courses.
func bounds(some [][]int, of func([]int) int) kill.Range {
	r := to(of(some[0]), of(some[0]))
	for _, course := range some {
		r = to(min(r.Lo, of(course)), max(r.Hi, of(course)))
	}
	return r
}

// waters returns the bounds of the water of all lots after each step.
func (a allCourses) waters() (all [][]kill.Range) {
	for _, some := range a {
		var l []kill.Range
		for step := 1; step < len(some[0]); step++ {
			l = append(l, bounds(some, func(course []int) int { return course[step] }))
		}
		all = append(all, l)
	}
	return all
}

// shrinks returns the range of what all lots lose.
func (a allCourses) shrinks() (sum kill.Range) {
	for _, some := range a {
		r := bounds(some, func(course []int) int { return course[0] - course[len(course)-1] })
		sum = to(sum.Lo+r.Lo, sum.Hi+r.Hi)
	}
	return sum
}

// killed returns when a lot is killed, and its colour: each step is asked whether it is the last one of so many.
func killed(h kill.House, l []int) (int, uint8) {
	for step := range l {
		for i, x := range h.Places {
			first := step + 1 - x.Kill
			if x.Kill > 0 && first >= 0 && slices.Equal(l[first:step+1], slices.Repeat(list(i), x.Kill)) {
				return step, x.Colour
			}
		}
	}
	return kill.None, 0
}

// good reports whether a lot is killed, and has the colour that is asked for.
func good(h kill.House, i int, l []int) bool {
	step, colour := killed(h, l)
	return step != kill.None && (h.Lots[i].Colour == 0 || h.Lots[i].Colour == colour)
}

// dry reports whether so much water is not too much at the end.
func dry(x kill.Lot, water int) bool { return 1000*water <= x.Dry*x.Limit }

// wrong returns the lots that are not right.
func (a allCourses) wrong(h kill.House, p kill.Plan) (all []int) {
	for i, some := range a {
		wet := slices.ContainsFunc(some, func(course []int) bool { return !dry(h.Lots[i], course[h.Steps]) })
		if wet || !good(h, i, p[i]) {
			all = append(all, i)
		}
	}
	return all
}

// reached has the numbers to which something in numbers can be dried in a place, or from which something in them can come.
func reached(h kill.House, place int, numbers []bool, back bool) []bool {
	all := make([]bool, len(numbers))
	for water := range numbers {
		for left := range water + 1 {
			from, become := water, left
			if back {
				from, become = left, water
			}
			if numbers[from] && canGo(h, place, water, water-left) {
				all[become] = true
			}
		}
	}
	return all
}

// both has the numbers that two lists have.
func both(a, b []bool) []bool {
	all := make([]bool, len(a))
	for i := range a {
		all[i] = a[i] && b[i]
	}
	return all
}

// weighed has the numbers of water after a step that weighings allow.
func weighed(h kill.House, i, step int, seen []kill.Weigh) []bool {
	all := make([]bool, api.MaxKillWeight+1)
	for n := range all {
		all[n] = !slices.ContainsFunc(seen, func(x kill.Weigh) bool {
			return x.Lot == i && x.Step == step && !in(x.Weight, h.Lots[i].Dry+n)
		})
	}
	return all
}

// numbersOf has the numbers that the water of a lot can be after each step, by sets that are reached from both sides.
func numbersOf(h kill.House, i int, l []int, seen []kill.Weigh) [][]bool {
	at := make([]bool, api.MaxKillWeight+1)
	for n := range at {
		at[n] = in(h.Lots[i].Water, n)
	}
	var all [][]bool
	for step, x := range l {
		at = both(reached(h, x, at, false), weighed(h, i, step, seen))
		all = append(all, at)
	}
	for step := len(l) - 1; step > 0; step-- {
		all[step-1] = both(all[step-1], reached(h, l[step], all[step], true))
	}
	return all
}

// mostLeft is the most that can be left of so much water, if the most is left in each step.
func mostLeft(h kill.House, l []int, water int) int {
	for _, x := range l {
		off := 0
		for !canGo(h, x, water, off) {
			off++
		}
		water -= off
	}
	return water
}

// everyList calls a function with all lists of a lot, from the smallest one on; the list is changed afterwards.
func everyList(h kill.House, call func(l []int)) {
	var extend func(l []int)
	extend = func(l []int) {
		if len(l) == h.Steps {
			call(l)
			return
		}
		for x := kill.None; x < len(h.Places); x++ {
			extend(append(l, x))
		}
	}
	extend(nil)
}

// right returns all lists by which a lot is right, by how many places they have, each from the smallest one on.
func right(h kill.House, i int) (all [api.MaxKillSteps + 1][][]int) {
	everyList(h, func(l []int) {
		if good(h, i, l) && dry(h.Lots[i], mostLeft(h, l, h.Lots[i].Water.Hi)) {
			n := work(lists(l))
			all[n] = append(all[n], slices.Clone(l))
		}
	})
	return all
}

func work(p kill.Plan) (n int) {
	for _, l := range p {
		for _, x := range l {
			if x != kill.None {
				n++
			}
		}
	}
	return n
}

// smaller compares plans, lot by lot.
func smaller(p, q kill.Plan) bool {
	return slices.Compare(slices.Concat(p...), slices.Concat(q...)) < 0
}

// best returns the best plan by trying all right lists of all lots, first those with no work, then those with work 1, and so on; nil if there is none.
func best(h kill.House) kill.Plan {
	var all [][api.MaxKillSteps + 1][][]int
	for i := range h.Lots {
		all = append(all, right(h, i))
	}
	var found kill.Plan
	var extend func(p kill.Plan, left int)
	extend = func(p kill.Plan, left int) {
		i := len(p)
		if i == len(h.Lots) {
			if left == 0 && (found == nil || smaller(p, found)) {
				found = slices.Clone(p)
			}
			return
		}
		for n := range min(left, h.Steps) + 1 {
			for _, l := range all[i][n] {
				if longer := append(p, l); roomFor(h, longer) {
					extend(longer, left-n)
				}
			}
		}
	}
	for n := 0; n <= len(h.Lots)*h.Steps && found == nil; n++ {
		extend(nil, n)
	}
	return found
}

// sets has the sets of the indexes below a number, shorter ones first, and those of the same length in lexicographic order.
func sets(length int) (all [][]int) {
	for bits := range 1 << length {
		var set []int
		for i := range length {
			if bits>>i&1 == 1 {
				set = append(set, i)
			}
		}
		all = append(all, set)
	}
	slices.SortFunc(all, func(a, b []int) int {
		if len(a) != len(b) {
			return len(a) - len(b)
		}
		return slices.Compare(a, b)
	})
	return all
}

// without leaves weighings out.
func without(seen []kill.Weigh, set []int) (kept []kill.Weigh) {
	for i, x := range seen {
		if !slices.Contains(set, i) {
			kept = append(kept, x)
		}
	}
	return kept
}

// size bounds the houses that are drawn.
type size struct{ places, lots, steps, water, wide int }

var (
	// small houses have lots with few courses, so that all of them can be tried.
	small = size{places: 3, lots: 3, steps: 3, water: 9, wide: 3}
	// middle houses have so few lists that all plans can be tried.
	middle = size{places: 2, lots: 3, steps: 4, water: 1000, wide: 200}
	// large houses reach the limits.
	large = size{places: 3, lots: 3, steps: 5, water: 1000, wide: 1000}
)

func chance(seed uint64) *rand.Rand { return rand.New(rand.NewPCG(seed, 6)) }

func between(r *rand.Rand, low, high int) int { return low + r.IntN(high-low+1) }

// within draws a range within another one that is not wider than a number.
func within(r *rand.Rand, outer kill.Range, wide int) kill.Range {
	low := between(r, outer.Lo, outer.Hi)
	return to(low, min(outer.Hi, low+r.IntN(wide+1)))
}

// drawLoss draws a Loss; often it has the one end, or the other one.
func drawLoss(r *rand.Rand) kill.Range {
	switch r.IntN(8) {
	case 0:
		return to(0, r.IntN(1001))
	case 1:
		return to(r.IntN(1001), 1000)
	}
	return within(r, to(0, 1000), 400)
}

// draw draws a valid house.
func draw(r *rand.Rand, z size) (h kill.House) {
	h.Steps = between(r, 1, z.steps)
	for range between(r, 1, z.places) {
		steps := []int{1, 1, 2, 2, 3, r.IntN(6)}[r.IntN(6)]
		h.Places = append(h.Places, kill.Place{Room: []int{1, 1, 2, 3}[r.IntN(4)], Kill: steps, Colour: uint8(between(r, 1, 2)), Loss: drawLoss(r)})
	}
	for range between(r, 1, z.lots) {
		x := kill.Lot{Dry: between(r, 1, z.water), Water: within(r, to(0, z.water), z.wide), Limit: r.IntN(1001)}
		if r.IntN(3) == 0 {
			x.Colour = uint8(between(r, 1, 2))
		}
		h.Lots = append(h.Lots, x)
	}
	return h
}

// drawPlan draws a plan; a lot often stays where it is.
func drawPlan(r *rand.Rand, h kill.House) kill.Plan {
	p := nowhere(h)
	for step := range h.Steps {
		for _, i := range r.Perm(len(h.Lots)) {
			x := between(r, kill.None, len(h.Places)-1)
			if step > 0 && r.IntN(2) == 0 {
				x = p[i][step-1]
			}
			p[i][step] = x
			if !roomFor(h, p) {
				p[i][step] = kill.None
			}
		}
	}
	return p
}

// drawTruth draws a truth of a house with a plan; it is often at an end of what can go off.
func drawTruth(r *rand.Rand, h kill.House, p kill.Plan) (t kill.Truth) {
	for i, l := range p {
		water := between(r, h.Lots[i].Water.Lo, h.Lots[i].Water.Hi)
		t.Water = append(t.Water, water)
		var offs []int
		for _, x := range l {
			var can []int
			for off := range water + 1 {
				if canGo(h, x, water, off) {
					can = append(can, off)
				}
			}
			off := can[[]int{0, len(can) - 1, r.IntN(len(can)), r.IntN(len(can))}[r.IntN(4)]]
			offs, water = append(offs, off), water-off
		}
		t.Off = append(t.Off, offs)
	}
	return t
}

// drawWeigh draws a weighing with which a truth agrees.
func drawWeigh(r *rand.Rand, h kill.House, p kill.Plan, t kill.Truth, wide int) kill.Weigh {
	water, _ := played(h, p, t)
	i, step := r.IntN(len(h.Lots)), r.IntN(h.Steps)
	n := h.Lots[i].Dry + water[i][step]
	return weigh(i, step, max(0, n-r.IntN(wide+1)), min(2000, n+r.IntN(wide+1)))
}

// drawWeighs draws so many weighings of a truth, or of different ones and of none.
func drawWeighs(r *rand.Rand, h kill.House, p kill.Plan, number, wide int) (seen []kill.Weigh) {
	t, mixed := drawTruth(r, h, p), r.IntN(6) // of 5 weighings so many are those of others, or of none
	for range number {
		x := drawWeigh(r, h, p, t, wide)
		if r.IntN(5) < mixed {
			x = drawWeigh(r, h, p, drawTruth(r, h, p), wide/4)
			if r.IntN(4) == 0 {
				x.Weight = within(r, to(0, 2000), wide)
			}
		}
		seen = append(seen, x)
	}
	return seen
}
