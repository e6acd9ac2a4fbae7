package prey

import (
	"cmp"
	"math/bits"

	"nochez/api"
	"nochez/lists"
)

// set has some pads: pad n is in it if bit n is 1. A week of a plan is one, too: the pads that are picked.
type set uint

func setOf(pads ...int) set {
	var s set
	for _, pad := range pads {
		s |= 1 << pad
	}
	return s
}

func (s set) has(pad int) bool { return s.meets(setOf(pad)) }

// meets reports whether some pad is in both sets.
func (s set) meets(other set) bool { return s&other != 0 }

// without returns the pads that are not in another set.
func (s set) without(other set) set { return s &^ other }

func (s set) size() int { return bits.OnesCount(uint(s)) }

// pads returns the pads in increasing order.
func (s set) pads() []int {
	var pads []int
	for pad := range api.MaxNestPads {
		if s.has(pad) {
			pads = append(pads, pad)
		}
	}
	return pads
}

// listsOf returns the lists of some sets, each in memory of its own.
func listsOf(sets []set) [][]int {
	var all [][]int
	for _, s := range sets {
		all = append(all, s.pads())
	}
	return all
}

// handsFor returns how many hands a plan needs.
func handsFor(plan []set) int {
	var sizes []int
	for _, week := range plan {
		sizes = append(sizes, week.size())
	}
	return lists.Most(0, sizes...)
}

// order compares weeks: if first finds no difference, then counts.
type order struct {
	first, then func(a, b set) int
}

func weekOrder() order { return order{first: set.bySize, then: set.byPads} }

func (o order) compare(a, b set) int { return cmp.Or(o.first(a, b), o.then(a, b)) }

func (s set) bySize(other set) int { return cmp.Compare(s.size(), other.size()) }

// byPads compares the lists of two sets of the same size lexicographically: that one is before which has the smallest pad that is not in both.
func (s set) byPads(other set) int {
	differ := s ^ other
	smallest := differ & -differ
	return cmp.Compare(other&smallest, s&smallest)
}
