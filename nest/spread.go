package nest

import (
	"nochez/api"
	"nochez/lists"
)

// row has a range for each pad.
type row [api.MaxNestPads]Range

// nest is a nest at work. A pad that it does not reach has the share 0 to 0, so that all pads are treated alike.
type nest struct {
	young  int
	shares row // what its kind allows each pad to get
	bounds row // what each pad does get in its spreads, at least and at most, if it fits
}

// newNest returns a nest with these shares; its bounds are kept, since the search for a layout asks for them again and again.
func newNest(young int, shares row) nest {
	n := nest{young: young, shares: shares}
	for pad := range shares {
		n.bounds[pad] = Range{Lo: n.extreme(pad, lowEnd()), Hi: n.extreme(pad, highEnd())}
	}
	return n
}

// end is one end of what the shares of a nest allow.
type end struct {
	near, far func(Range) int       // this end of a range, and the opposite one
	within    func(int, ...int) int // of several limits, the one that counts at this end
}

func lowEnd() end { return end{near: Range.low, far: Range.high, within: lists.Most} }

func highEnd() end { return end{near: Range.high, far: Range.low, within: lists.Least} }

// sum adds up one end of all shares.
func (n nest) sum(of func(Range) int) int {
	total := 0
	for _, r := range n.shares {
		total += of(r)
	}
	return total
}

// fits reports whether the nest has a spread.
func (n nest) fits() bool { return Range{Lo: n.sum(Range.low), Hi: n.sum(Range.high)}.has(n.young) }

// extreme returns the fewest, or the most, young that a pad gets in the spreads of a nest that fits: the share of the pad counts, and what the others leave to it.
func (n nest) extreme(pad int, e end) int {
	others := n.sum(e.far) - e.far(n.shares[pad])
	return e.within(e.near(n.shares[pad]), n.young-others)
}

// spreadWith returns a spread of the nest in which a pad gets a number from its bounds.
func (n nest) spreadWith(pad, number int) [api.MaxNestPads]int {
	n.shares[pad] = Range{Lo: number, Hi: number}
	var numbers [api.MaxNestPads]int
	left := n.young - n.sum(Range.low)
	for p, r := range n.shares {
		more := lists.Least(left, r.Hi-r.Lo)
		numbers[p] = r.Lo + more
		left -= more
	}
	return numbers
}

// spreadBy reports whether numbers are a spread of the nest over a grove of so many pads.
func (n nest) spreadBy(numbers []int, pads int) bool {
	if len(numbers) != pads {
		return false
	}
	left := n.young
	for pad, number := range numbers {
		if !n.shares[pad].has(number) {
			return false
		}
		left -= number
	}
	return left == 0
}
