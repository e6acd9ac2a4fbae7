package sieve

import (
	"nochez/api"
	"nochez/lists"
)

// trace is what a set of tests keeps of a mixture, one after the other, and whether this is within the limits.
type trace struct {
	kept   [api.MaxSieveTests]int
	within bool
}

// opposite returns the trace of the mixtures that are alike, but on the other side of the limits.
func (t trace) opposite() trace {
	t.within = !t.within
	return t
}

// withinLimits reports whether no thing of a mixture is more than its limit.
func withinLimits(mixture, limits []int) bool {
	for thing, n := range mixture {
		if n > limits[thing] {
			return false
		}
	}
	return true
}

// trace returns the trace that a mixture leaves in a set of tests.
func (s *assay) trace(mixture, limits, tests []int) trace {
	t := trace{within: withinLimits(mixture, limits)}
	for i, test := range tests {
		t.kept[i] = s.keeps(test, mixture)
	}
	return t
}

// pair returns the pair of a set of tests, and whether there is one.
func (s *assay) pair(limits, tests []int) (within, beyond []int, found bool) {
	first := map[trace][]int{} // for each trace the first mixture that leaves it
	for _, m := range s.possible {
		t := s.trace(m, limits, tests)
		if _, seen := first[t]; !seen {
			first[t] = m
		}
	}
	for _, m := range s.possible {
		t := s.trace(m, limits, tests)
		beyond, found = first[t.opposite()]
		if t.within && found {
			return m, beyond, true
		}
	}
	return nil, nil, false
}

// decides reports whether a set of tests has no pair.
func (s *assay) decides(limits, tests []int) bool {
	_, _, found := s.pair(limits, tests)
	return !found
}

// fewestTests returns the fewest tests, and whether they decide: if no tests do, it returns none.
func (s *assay) fewestTests(limits []int) ([]int, bool) {
	fewest := lists.Smallest(len(s.Tests), func(tests []int) bool { return s.decides(limits, tests) })
	return fewest, s.decides(limits, fewest)
}
