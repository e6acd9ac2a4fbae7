package nest

import (
	"slices"

	"nochez/api"
)

// apart reports whether different pads are apart.
func (s *site) apart(pads []int) bool {
	var taken [api.MaxNestPads]bool
	for _, pad := range pads {
		if s.Pads[pad].Need == 0 {
			return false
		}
		for p := range s.reached(pad) {
			if taken[p] {
				return false
			}
			taken[p] = true
		}
	}
	return true
}

// proof returns the proof of the grove.
func (s *site) proof() []int {
	var largest []int
	var extend func(pads []int, next int)
	extend = func(pads []int, next int) {
		// Lists come in lexicographic order, so that a later one has to be longer.
		if len(pads) > len(largest) {
			largest = pads
		}
		for pad := next; pad < len(s.Pads); pad++ {
			more := append(slices.Clone(pads), pad)
			if s.apart(more) {
				extend(more, pad+1)
			}
		}
	}
	extend(nil, 0)
	return largest
}
