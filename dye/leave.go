package dye

import (
	"nochez/lists"
)

// smallestSet returns the smallest set of readings of valid works that can be left out.
func (w Works) smallestSet() []int {
	return lists.Smallest(len(w.Readings), func(out []int) bool {
		return measure(Works{Lots: w.Lots, Readings: lists.Without(w.Readings, out)}).consistent()
	})
}
