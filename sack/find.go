package sack

import (
	"iter"
	"slices"
)

// canBe reports whether a find can be a sack.
func (x Find) canBe(a arrival) bool {
	return a.place == x.Place && (x.Mark == 0 || x.Mark == a.mark) && x.Weight.meets(a.weight)
}

// identifications yields the identifications of finds: lists with a sack for each find, which are changed afterwards.
func identifications(finds []Find, sacks []arrival) iter.Seq[[]int] {
	return func(yield func([]int) bool) {
		var give func(given []int) bool
		give = func(given []int) bool {
			if len(given) == len(finds) {
				return yield(given)
			}
			for sack, a := range sacks {
				if slices.Contains(given, sack) || !finds[len(given)].canBe(a) {
					continue
				}
				if !give(append(given, sack)) {
					return false
				}
			}
			return true
		}
		give(nil)
	}
}

// possible reports whether there is an identification.
func possible(finds []Find, sacks []arrival) bool {
	for range identifications(finds, sacks) {
		return true
	}
	return false
}

// identify returns for each find all sacks that it has in some identification, rising, and whether there is one.
func identify(finds []Find, sacks []arrival) (given [][]int, can bool) {
	given = make([][]int, len(finds))
	for identification := range identifications(finds, sacks) {
		can = true
		for find, sack := range identification {
			if !slices.Contains(given[find], sack) {
				given[find] = append(given[find], sack)
			}
		}
	}
	for _, some := range given {
		slices.Sort(some)
	}
	return given, can
}
