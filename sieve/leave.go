package sieve

import (
	"nochez/api"
	"nochez/lists"
)

// marks has for each result whether it is marked.
type marks [api.MaxSieveResults]bool

// mark marks these results.
func mark(results []int) marks {
	var m marks
	for _, i := range results {
		m[i] = true
	}
	return m
}

// contradicted marks the results that a mixture contradicts.
func (l Lot) contradicted(mixture []int) marks {
	var m marks
	for i, x := range l.Results {
		m[i] = !l.agrees(x, mixture)
	}
	return m
}

// smallestSet returns the smallest set of results that can be left out. It is all that some mixture contradicts: if this were a part of it, this part alone could be left out.
func (l Lot) smallestSet() []int {
	wrong := map[marks]bool{}
	for m := range l.mixtures() {
		wrong[l.contradicted(m)] = true
	}
	return lists.Smallest(len(l.Results), func(out []int) bool { return wrong[mark(out)] })
}
