package shade

import (
	"slices"

	"nochez/api"
)

// What follows the strengths of the lots in the numbers of a truth.
const (
	bindAt = api.MaxShadeLots + iota
	uptakeAt
	length
)

// numbers are those of a truth, in the order in which truths are compared: the strengths of the lots, which are 0 for lots that there are not, Bind and Uptake.
type numbers [length]int

// numbersOf returns the numbers of a truth that has no more than MaxShadeLots strengths.
func numbersOf(t Truth) (n numbers) {
	copy(n[:bindAt], t.Strength)
	n[bindAt], n[uptakeAt] = t.Bind, t.Uptake
	return n
}

// truth returns the truth of a house with these numbers.
func (h House) truth(n numbers) Truth {
	return Truth{Strength: slices.Clone(n[:len(h.Lots)]), Bind: n[bindAt], Uptake: n[uptakeAt]}
}

// unknown returns the ranges of the numbers of all truths.
func (h House) unknown() (ranges [length]Range) {
	for lot, l := range h.Lots {
		ranges[lot] = l.Strength
	}
	ranges[bindAt], ranges[uptakeAt] = h.Wool.Bind, h.Wool.Uptake
	return ranges
}

func (r Range) low() int { return r.Lo }

func (r Range) high() int { return r.Hi }

// end is one of the two ends of ranges. With a greater number of what is not known no depth is smaller, so that the depths are from the one with all numbers at the lower end to the one with all at the upper end.
type end struct{ of func(Range) int }

func lower() end { return end{of: Range.low} }

func upper() end { return end{of: Range.high} }

// at returns the numbers of the truth that has all of them at an end.
func (h House) at(x end) (n numbers) {
	for i, unknown := range h.unknown() {
		n[i] = x.of(unknown)
	}
	return n
}
