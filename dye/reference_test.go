package dye_test

import (
	"math/rand/v2"
	"slices"

	"nochez/dye"
)

// The references go by the words of the definitions, and call nothing of the package: they try all lists of strengths, all chains, and all sets.

func to(low, high int) dye.Range { return dye.Range{Lo: low, Hi: high} }

func list(l ...int) []int { return l }

func lists(l ...[]int) [][]int { return l }

func row(l ...dye.Range) []dye.Range { return l }

func in(r dye.Range, n int) bool { return r.Lo <= n && n <= r.Hi }

func inside(inner, outer dye.Range) bool { return in(outer, inner.Lo) && in(outer, inner.Hi) }

func scale(lot, value, err int) dye.Reading {
	return dye.Reading{Kind: dye.Scale, Lot: lot, Value: value, Error: err}
}

func compare(lot, other, value, err int) dye.Reading {
	return dye.Reading{Kind: dye.Compare, Lot: lot, Other: other, Value: value, Error: err}
}

func chain(from, first int, links ...int) dye.Chain {
	return dye.Chain{From: from, First: first, Links: links}
}

func works(lots []dye.Range, readings ...dye.Reading) dye.Works {
	return dye.Works{Lots: lots, Readings: readings}
}

// full has so many lots of which nothing is known before.
func full(lots int) []dye.Range { return slices.Repeat(row(to(0, 100)), lots) }

// three are the works of the chapter's examples, with further readings.
func three(more ...dye.Reading) dye.Works {
	return works(row(to(0, 100), to(0, 100), to(20, 60)), append([]dye.Reading{scale(0, 50, 10), compare(1, 0, 15, 5), compare(2, 1, -30, 3)}, more...)...)
}

// with adds readings to works.
func with(w dye.Works, readings ...dye.Reading) dye.Works {
	w.Readings = slices.Concat(w.Readings, readings)
	return w
}

// without leaves readings out.
func without(w dye.Works, set []int) dye.Works {
	var left []dye.Reading
	for i, x := range w.Readings {
		if !slices.Contains(set, i) {
			left = append(left, x)
		}
	}
	w.Readings = left
	return w
}

// clone copies works, so that they can be changed.
func clone(w dye.Works) dye.Works {
	return dye.Works{Lots: slices.Clone(w.Lots), Readings: slices.Clone(w.Readings)}
}

// holds reports whether a reading holds for strengths.
func holds(x dye.Reading, s []int) bool {
	n := s[x.Lot]
	if x.Kind == dye.Compare {
		n -= s[x.Other]
	}
	return in(to(x.Value-x.Error, x.Value+x.Error), n)
}

// hold reports whether all readings of works hold for strengths.
func hold(w dye.Works, s []int) bool {
	for _, x := range w.Readings {
		if !holds(x, s) {
			return false
		}
	}
	return true
}

// numbers calls a function with all lists that have a number of each range; the list is changed afterwards.
func numbers(ranges []dye.Range, call func([]int)) {
	var s []int
	for _, r := range ranges {
		s = append(s, r.Lo)
	}
	for {
		call(s)
		i := len(s) - 1
		for i >= 0 && s[i] == ranges[i].Hi {
			s[i] = ranges[i].Lo
			i--
		}
		if i < 0 {
			return
		}
		s[i]++
	}
}

// truths has all truths of works.
func truths(w dye.Works) (all [][]int) {
	numbers(w.Lots, func(s []int) {
		if hold(w, s) {
			all = append(all, slices.Clone(s))
		}
	})
	return all
}

// boundsOf returns the range of a quantity in some truths.
func boundsOf(some [][]int, of func([]int) int) dye.Range {
	r := to(of(some[0]), of(some[0]))
	for _, s := range some {
		r = to(min(r.Lo, of(s)), max(r.Hi, of(s)))
	}
	return r
}

func strengthsOf(w dye.Works, some [][]int) (bounds []dye.Range) {
	for i := range w.Lots {
		bounds = append(bounds, boundsOf(some, func(s []int) int { return s[i] }))
	}
	return bounds
}

// rankOf returns the rank of a lot in a truth.
func rankOf(s []int, lot int) (rank int) {
	for _, n := range s {
		if n > s[lot] {
			rank++
		}
	}
	return rank
}

func widthOf(bounds []dye.Range) (width int) {
	for _, r := range bounds {
		width += r.Hi - r.Lo
	}
	return width
}

// helpOf returns the best lot for a further reading with an error, and what it leaves, by all truths of works.
func helpOf(w dye.Works, all [][]int, err int) (best, width int) {
	for lot := range w.Lots {
		most := 0
		for value := range 101 {
			if !slices.ContainsFunc(all, func(s []int) bool { return s[lot] == value }) {
				continue
			}
			var left [][]int
			for _, s := range all {
				if holds(scale(lot, value, err), s) {
					left = append(left, s)
				}
			}
			most = max(most, widthOf(strengthsOf(w, left)))
		}
		if lot == 0 || most < width {
			best, width = lot, most
		}
	}
	return best, width
}

func isIndex(i, length int) bool { return i >= 0 && i < length }

// boundOf returns the bound of a chain for a lot, and whether it is one.
func boundOf(w dye.Works, lot int, high bool, c dye.Chain) (bound int, valid bool) {
	if !isIndex(c.From, len(w.Lots)) || len(c.Links) > 6 {
		return 0, false
	}
	switch {
	case c.First == -1 && high:
		bound = w.Lots[c.From].Hi
	case c.First == -1:
		bound = w.Lots[c.From].Lo
	case !isIndex(c.First, len(w.Readings)) || w.Readings[c.First].Kind != 1 || w.Readings[c.First].Lot != c.From:
		return 0, false
	case high:
		bound = w.Readings[c.First].Value + w.Readings[c.First].Error
	default:
		bound = w.Readings[c.First].Value - w.Readings[c.First].Error
	}
	at := c.From
	for _, i := range c.Links {
		if !isIndex(i, len(w.Readings)) || w.Readings[i].Kind != 2 {
			return 0, false
		}
		x := w.Readings[i]
		err := x.Error
		if !high {
			err = -err
		}
		switch at {
		case x.Other:
			at, bound = x.Lot, bound+x.Value+err
		case x.Lot:
			at, bound = x.Other, bound-x.Value+err
		default:
			return 0, false
		}
	}
	return bound, at == lot
}

// chains calls a function with all chains of works that have no more than so many links, and with others that are not valid.
func chains(w dye.Works, most int, call func(dye.Chain)) {
	var extend func(c dye.Chain)
	extend = func(c dye.Chain) {
		call(c)
		if len(c.Links) == most {
			return
		}
		for i := -1; i <= len(w.Readings); i++ {
			extend(dye.Chain{From: c.From, First: c.First, Links: append(slices.Clip(c.Links), i)})
		}
	}
	for from := -1; from <= len(w.Lots); from++ {
		for first := -2; first <= len(w.Readings); first++ {
			extend(chain(from, first))
		}
	}
}

// sets has the sets of so many indexes, shorter ones first, and those of the same length in lexicographic order.
func sets(length int) (all [][]int) {
	for bits := range 1 << length {
		var set []int
		for i := range length {
			if bits>>i&1 == 1 {
				set = append(set, i)
			}
		}
		all = append(all, set)
	}
	slices.SortFunc(all, func(a, b []int) int {
		if len(a) != len(b) {
			return len(a) - len(b)
		}
		return slices.Compare(a, b)
	})
	return all
}

// size bounds the works that are drawn; each lot is known before within so much.
type size struct{ lots, wide, readings int }

var (
	// small works have few truths, though several lots.
	small = size{lots: 4, wide: 4, readings: 6}
	// many works have many lots, of which much is known before.
	many = size{lots: 6, wide: 2, readings: 8}
	// wide works have few lots, of which nothing may be known before.
	wide = size{lots: 2, wide: 100, readings: 8}
	// large works reach the limits.
	large = size{lots: 6, wide: 100, readings: 8}
)

func chance(seed uint64) *rand.Rand { return rand.New(rand.NewPCG(seed, 8)) }

func between(r *rand.Rand, low, high int) int { return low + r.IntN(high-low+1) }

// cut returns the number of a range that is next to a number.
func cut(n int, r dye.Range) int { return max(r.Lo, min(r.Hi, n)) }

// drawReading draws a reading of strengths, off by at most its error, or by more if it is wrong.
func drawReading(r *rand.Rand, z size, s []int, wrong bool) dye.Reading {
	err := list(0, 1, r.IntN(3), r.IntN(z.wide+1), r.IntN(101))[r.IntN(5)]
	off := between(r, -err, err)
	if wrong {
		off = between(r, -err-z.wide-2, err+z.wide+2)
	}
	lot := r.IntN(len(s))
	if len(s) == 1 || r.IntN(3) == 0 {
		return scale(lot, cut(s[lot]+off, to(0, 100)), err)
	}
	other := (lot + 1 + r.IntN(len(s)-1)) % len(s)
	return compare(lot, other, cut(s[lot]-s[other]+off, to(-100, 100)), err)
}

// drawLots draws lots, and a strength of each one; often these are near to each other.
func drawLots(r *rand.Rand, z size) (lots []dye.Range, s []int) {
	middle := r.IntN(101)
	for range max(1, z.lots-r.IntN(3)) {
		n := r.IntN(101)
		if r.IntN(4) > 0 {
			n = cut(middle+between(r, -z.wide, z.wide), to(0, 100))
		}
		below := r.IntN(z.wide + 1)
		lots, s = append(lots, to(cut(n-below, to(0, 100)), cut(n+r.IntN(z.wide-below+1), to(0, 100)))), append(s, n)
		if z.wide == 100 && r.IntN(2) == 0 {
			lots[len(lots)-1] = to(0, 100)
		}
	}
	return lots, s
}

// draw draws valid works, and strengths for which all readings hold but those that are wrong; in half of the works none is.
func draw(r *rand.Rand, z size) (dye.Works, []int) {
	lots, s := drawLots(r, z)
	w, wrong := works(lots), max(0, r.IntN(6)-2) // of 6 readings so many are wrong
	for range z.readings - min(z.readings, r.IntN(2)*r.IntN(z.readings+1)) {
		w.Readings = append(w.Readings, drawReading(r, z, s, r.IntN(6) < wrong))
	}
	return w, s
}
