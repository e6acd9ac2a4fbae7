package grow_test

import (
	"math/rand/v2"
	"slices"

	"nochez/grow"
)

// The reference tries all truths out, by the words of the definitions, and calls nothing of the package.

func to(low, high int) grow.Range { return grow.Range{Lo: low, Hi: high} }

func list(l ...int) []int { return l }

func ranges(l ...grow.Range) []grow.Range { return l }

func in(r grow.Range, n int) bool { return r.Lo <= n && n <= r.Hi }

func day(low, high, loss, most int) grow.Day {
	return grow.Day{Warmth: to(low, high), Loss: to(loss, most)}
}

func seen(day, low, high, few, many int) grow.Seen {
	return grow.Seen{Day: day, Stage: to(low, high), Alive: to(few, many)}
}

// three is the brood of the chapter's examples; warm is the one with more warmth on its last two days.
func three() grow.Brood {
	return grow.Brood{Needs: list(10, 20), Weak: list(100, 50, 0), Number: to(40, 50), Days: []grow.Day{day(5, 6, 100, 200), day(4, 8, 0, 0), day(5, 9, 200, 200)}}
}

func warm() grow.Brood {
	b := three()
	b.Days[1].Warmth, b.Days[2].Warmth = to(6, 8), to(10, 10)
	return b
}

// odd has, on each evening, only numbers at the ends of what Alive returns: none is alive, or all are.
func odd() grow.Brood {
	return grow.Brood{Needs: list(5), Weak: list(100, 0), Number: to(10, 10), Days: []grow.Day{day(4, 5, 1000, 1000), day(0, 1, 1000, 1000)}}
}

// clone copies a brood, so that it can be changed.
func clone(b grow.Brood) grow.Brood {
	b.Needs, b.Weak, b.Days = slices.Clone(b.Needs), slices.Clone(b.Weak), slices.Clone(b.Days)
	return b
}

func stageFor(b grow.Brood, sum int) (stage int) {
	for _, need := range b.Needs {
		if !(need > sum) {
			stage++
		}
	}
	return stage
}

// deadOf is the range of the dead, found by counting: k dead are 100000 k parts of the product.
func deadOf(d grow.Day, insects, weak int) (r grow.Range) {
	for (r.Lo+1)*100000 <= insects*d.Loss.Lo*weak {
		r.Lo++
	}
	for r.Hi*100000 < insects*d.Loss.Hi*weak {
		r.Hi++
	}
	return r
}

// path has what a truth makes of the evenings; a day that does not exist has zeros.
type path struct {
	stages, alive [8]int
}

// truths calls a function with each truth of a brood, and its path.
func truths(b grow.Brood, call func(grow.Truth, path)) {
	t := grow.Truth{Warmth: make([]int, len(b.Days)), Dead: make([]int, len(b.Days))}
	var p path
	var choose func(day, sum, insects int)
	choose = func(day, sum, insects int) {
		if day == len(b.Days) {
			call(t, p)
			return
		}
		d := b.Days[day]
		for w := d.Warmth.Lo; w <= d.Warmth.Hi; w++ {
			stage := stageFor(b, sum+w)
			dead := deadOf(d, insects, b.Weak[stage])
			for k := dead.Lo; k <= dead.Hi; k++ {
				t.Warmth[day], t.Dead[day] = w, k
				p.stages[day], p.alive[day] = stage, insects-k
				choose(day+1, sum+w, insects-k)
			}
		}
	}
	for t.Number = b.Number.Lo; t.Number <= b.Number.Hi; t.Number++ {
		choose(0, 0, t.Number)
	}
}

// paths has the paths of all truths of a brood, each once.
func paths(b grow.Brood) (all []path) {
	found := map[path]bool{}
	truths(b, func(_ grow.Truth, p path) {
		if !found[p] {
			found[p] = true
			all = append(all, p)
		}
	})
	return all
}

func agrees(p path, l []grow.Seen) bool {
	for _, x := range l {
		if !in(x.Stage, p.stages[x.Day]) || !in(x.Alive, p.alive[x.Day]) {
			return false
		}
	}
	return true
}

// agreeing has the paths that agree with all observations.
func agreeing(all []path, l []grow.Seen) (some []path) {
	for _, p := range all {
		if agrees(p, l) {
			some = append(some, p)
		}
	}
	return some
}

// ripeDay returns the first evening in the last stage, or -1.
func ripeDay(b grow.Brood, p path) int {
	return slices.Index(p.stages[:len(b.Days)], len(b.Needs))
}

// bounds returns the range of a number of some paths.
func bounds(some []path, of func(path) int) grow.Range {
	r := to(of(some[0]), of(some[0]))
	for _, p := range some {
		r = to(min(r.Lo, of(p)), max(r.Hi, of(p)))
	}
	return r
}

// sets has the sets of the indexes of so many observations, shorter ones first, and those of the same length in lexicographic order.
func sets(length int) (all [][]int) {
	for bits := range 1 << length {
		var set []int
		for i := range length {
			if bits>>i&1 == 1 {
				set = append(set, i)
			}
		}
		all = append(all, set)
	}
	slices.SortFunc(all, func(a, b []int) int {
		if len(a) != len(b) {
			return len(a) - len(b)
		}
		return slices.Compare(a, b)
	})
	return all
}

// without leaves observations out.
func without(l []grow.Seen, set []int) (others []grow.Seen) {
	for i, x := range l {
		if !slices.Contains(set, i) {
			others = append(others, x)
		}
	}
	return others
}

// size bounds the broods that are drawn.
type size struct{ days, warmth, number, width, losses int }

var (
	// small broods have few truths, so that all of them can be tried.
	small = size{days: 3, warmth: 2, number: 9, width: 2, losses: 400}
	// round broods have many insects, and losses that are nearly known, so that it counts how the dead are rounded.
	round = size{days: 3, warmth: 2, number: 100, width: 1, losses: 5}
	// large broods reach the limits.
	large = size{days: 8, warmth: 10, number: 100, width: 100, losses: 1000}
	// long broods have many days, and are known better.
	long = size{days: 8, warmth: 3, number: 100, width: 20, losses: 100}
)

func chance(seed uint64) *rand.Rand { return rand.New(rand.NewPCG(seed, 2)) }

func between(r *rand.Rand, low, high int) int { return low + r.IntN(high-low+1) }

// someRange draws a range from 0 to a number that is not wider than another one; often it is at an end, or not wide at all.
func someRange(r *rand.Rand, high, width int) grow.Range {
	switch r.IntN(8) {
	case 0:
		return to(0, r.IntN(min(high, width)+1))
	case 1:
		return to(high-r.IntN(min(high, width)+1), high)
	case 2:
		n := r.IntN(high + 1)
		return to(n, n)
	}
	low := r.IntN(high + 1)
	return to(low, min(high, low+r.IntN(width+1)))
}

// draw draws a valid brood.
func draw(r *rand.Rand, z size) (b grow.Brood) {
	sums := ranges(to(0, 0))
	for range between(r, 1, z.days) {
		d := grow.Day{Warmth: someRange(r, 10, z.warmth), Loss: someRange(r, 1000, z.losses)}
		b.Days = append(b.Days, d)
		before := sums[len(sums)-1]
		sums = append(sums, to(before.Lo+d.Warmth.Lo, before.Hi+d.Warmth.Hi))
	}
	for range between(r, 1, 4) {
		// Needs that may be met on some evening, or just not.
		sum := sums[r.IntN(len(sums))]
		b.Needs = append(b.Needs, min(80, max(1, between(r, sum.Lo, sum.Hi+1))))
	}
	slices.Sort(b.Needs)
	b.Needs = slices.Compact(b.Needs)
	for range len(b.Needs) + 1 {
		weak := r.IntN(101)
		if r.IntN(3) == 0 {
			weak = 100 * r.IntN(2)
		}
		b.Weak = append(b.Weak, weak)
	}
	b.Number = someRange(r, z.number, z.width)
	return b
}

// drawTruth draws a truth of a brood, with its path.
func drawTruth(r *rand.Rand, b grow.Brood) (t grow.Truth, p path) {
	t.Number = between(r, b.Number.Lo, b.Number.Hi)
	sum, insects := 0, t.Number
	for i, d := range b.Days {
		w := between(r, d.Warmth.Lo, d.Warmth.Hi)
		sum += w
		p.stages[i] = stageFor(b, sum)
		dead := deadOf(d, insects, b.Weak[p.stages[i]])
		k := between(r, dead.Lo, dead.Hi)
		insects -= k
		p.alive[i] = insects
		t.Warmth, t.Dead = append(t.Warmth, w), append(t.Dead, k)
	}
	return t, p
}

// around draws a range that has a number, from 0 to another one.
func around(r *rand.Rand, n, high, width int) grow.Range {
	return to(max(0, n-r.IntN(width+1)), min(high, n+r.IntN(width+1)))
}

// drawTrue draws an observation with which a path agrees, of any stage or number if it is vague.
func drawTrue(r *rand.Rand, b grow.Brood, p path, vague bool) grow.Seen {
	x := grow.Seen{Day: r.IntN(len(b.Days)), Stage: to(0, len(b.Needs)), Alive: to(0, 100)}
	if !vague || r.IntN(2) == 0 {
		x.Stage = around(r, p.stages[x.Day], len(b.Needs), 1)
	}
	if !vague || r.IntN(2) == 0 {
		x.Alive = around(r, p.alive[x.Day], 100, 3)
	}
	return x
}

// drawSeen draws observations: of one truth, or of different ones and of none.
func drawSeen(r *rand.Rand, b grow.Brood, most int) (l []grow.Seen) {
	_, p := drawTruth(r, b)
	mixed := r.IntN(2) == 0
	for range r.IntN(most + 1) {
		if mixed {
			_, p = drawTruth(r, b)
		}
		x := drawTrue(r, b, p, !mixed)
		if mixed && r.IntN(3) == 0 {
			x.Stage, x.Alive = someRange(r, len(b.Needs), 1), someRange(r, b.Number.Hi, 10)
		}
		l = append(l, x)
	}
	return l
}
