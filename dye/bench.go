package dye

import (
	"iter"

	"nochez/api"
	"nochez/lists"
)

// bench is works at work.
type bench struct {
	Works
	most map[pair]int // how much stronger than from the lot to is at most; water is a lot, too
}

// open returns valid works that have these lots, and whose readings do not contradict each other, at work; or their error.
func open(w Works, asked ...int) (*bench, api.Errno) {
	if e := w.check(); e != api.OK {
		return nil, e
	}
	if !lists.Each(asked, w.hasLot) {
		return nil, api.ErrRange
	}
	b := measure(w)
	if !b.consistent() {
		return nil, api.ErrFail
	}
	return b, api.OK
}

// measure puts valid works to work: it looks for the shortest ways from each lot to each other one, with ever more lots between them.
func measure(w Works) *bench {
	b := &bench{Works: w, most: map[pair]int{}}
	for p := range b.pairs() {
		b.most[p] = b.known(p)
	}
	for e := range b.edges(endOf(true)) {
		b.shorten(e.pair, e.most)
	}
	for _, between := range b.all() {
		for p := range b.pairs() {
			b.shorten(p, b.most[pair{p.from, between}]+b.most[pair{between, p.to}])
		}
	}
	return b
}

// pairs yields all pairs of lots and water, each one with itself, too.
func (b *bench) pairs() iter.Seq[pair] {
	return func(yield func(pair) bool) {
		for _, from := range b.all() {
			for _, to := range b.all() {
				if !yield(pair{from, to}) {
					return
				}
			}
		}
	}
}

// all returns the numbers of all lots, and of water.
func (b *bench) all() []int {
	all := []int{water}
	for lot := range len(b.Lots) {
		all = append(all, lot)
	}
	return all
}

// known returns how much stronger one of a pair is at most before any reading.
func (b *bench) known(p pair) int {
	if p.from == p.to {
		return 0
	}
	return b.before(p.to).Hi - b.before(p.from).Lo
}

// before returns the range in which a strength is before any reading.
func (b *bench) before(lot int) Range {
	if lot == water {
		return Range{}
	}
	return b.Lots[lot]
}

func (b *bench) shorten(p pair, most int) { b.most[p] = lists.Least(b.most[p], most) }

// consistent reports whether there is a truth. There is none just if something has to be weaker than itself.
func (b *bench) consistent() bool {
	return lists.Each(b.all(), func(lot int) bool { return b.most[pair{lot, lot}] >= 0 })
}

// difference returns the bounds of how much stronger than another lot a lot is. As all shortest ways have whole lengths, each end is reached in a truth.
func (b *bench) difference(lot, other int) Range {
	return Range{Lo: -b.most[pair{lot, other}], Hi: b.most[pair{other, lot}]}
}

// bounds returns those of the strengths of all lots.
func (b *bench) bounds() []Range {
	var bounds []Range
	for lot := range len(b.Lots) {
		bounds = append(bounds, b.difference(lot, water))
	}
	return bounds
}

// outermost returns the greatest strengths of all lots, or the smallest ones. They are a truth together: of two truths the greater strength of each lot is one, too, and so is the smaller one.
func (b *bench) outermost(high bool) []int {
	var truth []int
	for _, r := range b.bounds() {
		n := r.Lo
		if high {
			n = r.Hi
		}
		truth = append(truth, n)
	}
	return truth
}

// ranks returns the ranges of the ranks of all lots. The lots that can be stronger than one can all be so in one truth, and those that need not be stronger can all be so little in one, as the differences to it can be the greatest, or the smallest, together.
func (b *bench) ranks() []Range {
	var ranks []Range
	for lot := range len(b.Lots) {
		var rank Range
		for other := range len(b.Lots) {
			more := b.difference(other, lot)
			if more.Lo > 0 {
				rank.Lo++
			}
			if more.Hi > 0 {
				rank.Hi++
			}
		}
		ranks = append(ranks, rank)
	}
	return ranks
}
