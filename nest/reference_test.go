package nest_test

import (
	"math/rand/v2"
	"slices"

	"nochez/nest"
)

// The reference tries everything out, by the words of the definitions, and calls nothing of the package.

const no = nest.None

func to(low, high int) nest.Range { return nest.Range{Lo: low, Hi: high} }

func list(l ...int) []int { return l }

// fifty, twenty and tiny are kinds: the first one is that of the chapter's examples, the second one needs no neighbour, the third one fits nowhere.
func fifty() nest.Kind { return nest.Kind{Young: 50, Own: to(20, 30), Near: to(10, 20)} }

func twenty() nest.Kind { return nest.Kind{Young: 20, Own: to(20, 20)} }

func tiny() nest.Kind { return nest.Kind{Young: 1} }

// row is the grove of the chapter's examples, with so many pads.
func row(pads int, kinds ...nest.Kind) nest.Grove {
	g := nest.Grove{Kinds: kinds}
	for p := range pads {
		g.Pads = append(g.Pads, nest.Pad{Need: 10, Room: 40})
		if p > 0 {
			g.Joins = append(g.Joins, nest.Join{A: p - 1, B: p})
		}
	}
	return g
}

// clone copies a grove, so that it can be changed.
func clone(g nest.Grove) nest.Grove {
	return nest.Grove{Pads: slices.Clone(g.Pads), Joins: slices.Clone(g.Joins), Kinds: slices.Clone(g.Kinds)}
}

func neighbours(g nest.Grove, pad int) (near []int) {
	for p := range g.Pads {
		if slices.Contains(g.Joins, nest.Join{A: pad, B: p}) || slices.Contains(g.Joins, nest.Join{A: p, B: pad}) {
			near = append(near, p)
		}
	}
	return near
}

// shares has what a nest of a kind on a pad can spread to each pad.
func shares(g nest.Grove, pad, kind int) []nest.Range {
	s := make([]nest.Range, len(g.Pads))
	for _, p := range neighbours(g, pad) {
		s[p] = g.Kinds[kind].Near
	}
	s[pad] = g.Kinds[kind].Own
	return s
}

// nestSpreads has all spreads of a nest.
func nestSpreads(g nest.Grove, pad, kind int) (all [][]int) {
	s := shares(g, pad, kind)
	var choose func(chosen []int, left int)
	choose = func(chosen []int, left int) {
		if len(chosen) == len(s) {
			if left == 0 {
				all = append(all, slices.Clone(chosen))
			}
			return
		}
		r := s[len(chosen)]
		for n := r.Lo; n <= r.Hi && n <= left; n++ {
			choose(append(chosen, n), left-n)
		}
	}
	choose(nil, g.Kinds[kind].Young)
	return all
}

// spreads calls a function with each spread of a layout; the lists are those of pads without nests, too.
func spreads(g nest.Grove, layout []int, call func([][]int)) {
	choices := make([][][]int, len(layout))
	for pad, kind := range layout {
		choices[pad] = [][]int{nil}
		if kind != no {
			choices[pad] = nestSpreads(g, pad, kind)
		}
	}
	chosen := make([][]int, len(layout))
	var choose func(pad int)
	choose = func(pad int) {
		if pad == len(layout) {
			call(chosen)
			return
		}
		for _, c := range choices[pad] {
			chosen[pad] = c
			choose(pad + 1)
		}
	}
	choose(0)
}

// young adds up what is spread to a pad.
func young(spread [][]int, pad int) (n int) {
	for _, x := range spread {
		if len(x) > 0 {
			n += x[pad]
		}
	}
	return n
}

// isSpread reports whether lists are a spread of a layout.
func isSpread(g nest.Grove, layout []int, spread [][]int) bool {
	if len(spread) != len(layout) {
		return false
	}
	for pad, kind := range layout {
		if kind == no {
			if len(spread[pad]) != 0 {
				return false
			}
			continue
		}
		if len(spread[pad]) != len(g.Pads) {
			return false
		}
		left := g.Kinds[kind].Young
		for p, r := range shares(g, pad, kind) {
			n := spread[pad][p]
			if n < r.Lo || n > r.Hi {
				return false
			}
			left -= n
		}
		if left != 0 {
			return false
		}
	}
	return true
}

// isGood reports whether the young of each pad are from its Need to its Room.
func isGood(g nest.Grove, spread [][]int) bool {
	for p, x := range g.Pads {
		if n := young(spread, p); n < x.Need || n > x.Room {
			return false
		}
	}
	return true
}

// fits reports whether a kind has a spread on a pad, by the ends of the ranges.
func fits(g nest.Grove, pad, kind int) bool {
	low, high := 0, 0
	for _, r := range shares(g, pad, kind) {
		low, high = low+r.Lo, high+r.Hi
	}
	return low <= g.Kinds[kind].Young && g.Kinds[kind].Young <= high
}

// layouts calls a function with each layout of a grove, in lexicographic order.
func layouts(g nest.Grove, call func([]int)) {
	layout := make([]int, len(g.Pads))
	var choose func(pad int)
	choose = func(pad int) {
		if pad == len(layout) {
			call(layout)
			return
		}
		for kind := no; kind < len(g.Kinds); kind++ {
			if kind == no || fits(g, pad, kind) {
				layout[pad] = kind
				choose(pad + 1)
			}
		}
	}
	choose(0)
}

func count(layout []int) (nests int) {
	for _, kind := range layout {
		if kind != no {
			nests++
		}
	}
	return nests
}

// ends returns the bounds of all pads, from the ends of what a nest can spread.
func ends(g nest.Grove, layout []int) []nest.Range {
	b := make([]nest.Range, len(g.Pads))
	for pad, kind := range layout {
		if kind == no {
			continue
		}
		s, low, high := shares(g, pad, kind), 0, 0
		for _, r := range s {
			low, high = low+r.Lo, high+r.Hi
		}
		for p, r := range s {
			b[p].Lo += max(r.Lo, g.Kinds[kind].Young-(high-r.Hi))
			b[p].Hi += min(r.Hi, g.Kinds[kind].Young-(low-r.Lo))
		}
	}
	return b
}

// isRight reports whether a layout with these bounds is right.
func isRight(g nest.Grove, b []nest.Range) bool {
	for p, x := range g.Pads {
		if b[p].Lo < x.Need || b[p].Hi > x.Room {
			return false
		}
	}
	return true
}

// isApart reports whether the pads of an increasing list are apart.
func isApart(g nest.Grove, pads []int) bool {
	for i, a := range pads {
		if g.Pads[a].Need == 0 {
			return false
		}
		for _, b := range pads[i+1:] {
			for p := range g.Pads {
				if (p == a || slices.Contains(neighbours(g, a), p)) && (p == b || slices.Contains(neighbours(g, b), p)) {
					return false
				}
			}
		}
	}
	return true
}

// size bounds the groves that are drawn.
type size struct{ pads, kinds, young, need, room, least int }

var (
	// small groves have few spreads, so that all of them can be tried.
	small = size{pads: 4, kinds: 2, young: 6, need: 2, room: 9}
	// large groves reach the limits.
	large = size{pads: 8, kinds: 3, young: 1000, need: 600, room: 1000}
	// wide groves have layouts that are right.
	wide = size{pads: 7, kinds: 3, young: 60, need: 9, room: 90, least: 30}
)

func chance(seed uint64) *rand.Rand { return rand.New(rand.NewPCG(seed, 1)) }

func between(r *rand.Rand, low, high int) int { return low + r.IntN(high-low+1) }

func someRange(r *rand.Rand, high int) nest.Range {
	a, b := r.IntN(high+1), r.IntN(high+1)
	return to(min(a, b), max(a, b))
}

// draw draws a valid grove; most of its kinds fit on some pad.
func draw(r *rand.Rand, z size) (g nest.Grove) {
	pads := between(r, 1, z.pads)
	for range pads {
		need := r.IntN(z.need + 1)
		if r.IntN(3) == 0 {
			need = 0
		}
		g.Pads = append(g.Pads, nest.Pad{Need: need, Room: between(r, max(need, z.least), z.room)})
	}
	for a := range pads {
		for b := a + 1; b < pads; b++ {
			if len(g.Joins) < 16 && r.IntN(5) < 2 {
				j := nest.Join{A: a, B: b}
				if r.IntN(2) == 0 {
					j = nest.Join{A: b, B: a}
				}
				g.Joins = append(g.Joins, j)
			}
		}
	}
	r.Shuffle(len(g.Joins), func(i, j int) { g.Joins[i], g.Joins[j] = g.Joins[j], g.Joins[i] })
	for range between(r, 1, z.kinds) {
		k := nest.Kind{Own: someRange(r, z.young/2), Near: someRange(r, z.young/3)}
		near := len(neighbours(g, r.IntN(pads)))
		low, high := k.Own.Lo+near*k.Near.Lo, k.Own.Hi+near*k.Near.Hi
		k.Young = min(between(r, low, high), z.young)
		g.Kinds = append(g.Kinds, k)
	}
	return g
}

// drawLayout draws a layout of a grove.
func drawLayout(r *rand.Rand, g nest.Grove) []int {
	layout := make([]int, len(g.Pads))
	for pad := range layout {
		layout[pad] = no
		if kind := r.IntN(len(g.Kinds)); r.IntN(3) > 0 && fits(g, pad, kind) {
			layout[pad] = kind
		}
	}
	return layout
}
