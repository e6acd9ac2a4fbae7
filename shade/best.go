package shade

import (
	"iter"
	"slices"

	"nochez/api"
)

// grains yields what can be taken of the grain of all lots, in the order in which recipes are compared, each list in memory of its own.
func (h House) grains() iter.Seq[[]int] {
	return func(yield func([]int) bool) {
		var take func(grain []int) bool
		take = func(grain []int) bool {
			lot := len(grain)
			if lot == len(h.Lots) {
				return yield(slices.Clone(grain))
			}
			for n := range h.Lots[lot].Stock + 1 {
				if !take(append(grain, n)) {
					return false
				}
			}
			return true
		}
		take(nil)
	}
}

// recipes yields all recipes of a valid house in the order in which they are compared; those with the same grain share its list.
func (h House) recipes() iter.Seq[Recipe] {
	return func(yield func(Recipe) bool) {
		for grain := range h.grains() {
			for tin := range api.MaxShadeTin + 1 {
				for alum := range api.MaxShadeAlum + 1 {
					for time := range api.MaxShadeTime + 1 {
						if !yield(Recipe{Grain: grain, Tin: tin, Alum: alum, Time: time}) {
							return
						}
					}
				}
			}
		}
	}
}

// best returns the cheapest recipe that hits an order, the first one of several.
func (d *dyer) best(o Order) (best Recipe, found bool) {
	cost := 0
	for r := range d.recipes() {
		if c := d.cost(r); (!found || c < cost) && d.hits(r, o) {
			best, cost, found = r, c, true
		}
	}
	return best, found
}
