package sieve

import (
	"iter"
	"slices"

	"nochez/api"
	"nochez/lists"
)

func (r Range) low() int { return r.Lo }

func (r Range) high() int { return r.Hi }

func (r Range) has(n int) bool { return r.Lo <= n && n <= r.Hi }

// isWithin reports whether the range is valid, and has its ends in another one.
func (r Range) isWithin(other Range) bool { return r.Lo <= r.Hi && other.has(r.Lo) && other.has(r.Hi) }

// upTo is the range from 0 to a number.
func upTo(n int) Range { return Range{Lo: 0, Hi: n} }

// check returns the error of a lot, or OK.
func (l Lot) check() api.Errno {
	switch {
	case l.Things > api.MaxSieveThings, l.Whole > api.MaxSieveWhole, len(l.Tests) > api.MaxSieveTests, len(l.Results) > api.MaxSieveResults:
		return api.ErrLimit
	case l.Things < 1, l.Whole < 0, !lists.Each(l.Tests, l.canTest), !lists.Each(l.Results, l.canHave):
		return api.ErrArg
	}
	return api.OK
}

// canTest reports whether a test is as described.
func (l Lot) canTest(test []int) bool {
	return len(test) == l.Things && lists.Each(test, upTo(api.MaxSieveKeeps).has)
}

// canHave reports whether a result is valid.
func (l Lot) canHave(x Result) bool {
	return l.hasTest(x.Test) && x.Kept.isWithin(upTo(api.MaxSieveKept))
}

func (l Lot) hasTest(test int) bool { return test >= 0 && test < len(l.Tests) }

func (l Lot) hasThing(thing int) bool { return thing >= 0 && thing < l.Things }

// canLimit reports whether a list is limits for a lot.
func (l Lot) canLimit(limits []int) bool {
	return len(limits) == l.Things && lists.Each(limits, upTo(api.MaxSieveWhole).has)
}

// canChoose reports whether a list is a set of tests of a lot.
func (l Lot) canChoose(tests []int) bool { return lists.Rises(tests) && lists.Each(tests, l.hasTest) }

// isMixture reports whether a list is a mixture of a valid lot, whatever the results are.
func (l Lot) isMixture(list []int) bool {
	// What is above Whole is found before anything is added up, so that no sum is too great.
	if len(list) != l.Things || !lists.Each(list, upTo(l.Whole).has) {
		return false
	}
	sum := 0
	for _, n := range list {
		sum += n
	}
	return sum == l.Whole
}

// mixtures yields all mixtures of a valid lot, in lexicographic order, each in memory of its own.
func (l Lot) mixtures() iter.Seq[[]int] {
	return func(yield func([]int) bool) {
		var extend func(begun []int, left int) bool
		extend = func(begun []int, left int) bool {
			if len(begun) == l.Things-1 {
				return yield(slices.Concat(begun, []int{left}))
			}
			for n := range left + 1 {
				if !extend(append(begun, n), left-n) {
					return false
				}
			}
			return true
		}
		extend(nil, l.Whole)
	}
}

// keeps returns what a test keeps of a mixture.
func (l Lot) keeps(test int, mixture []int) int {
	kept := 0
	for thing, part := range l.Tests[test] {
		kept += part * mixture[thing]
	}
	return kept
}

// agrees reports whether a result can be one of a mixture.
func (l Lot) agrees(x Result, mixture []int) bool { return x.Kept.has(l.keeps(x.Test, mixture)) }

// canBe reports whether a mixture is possible.
func (l Lot) canBe(mixture []int) bool {
	return lists.Each(l.Results, func(x Result) bool { return l.agrees(x, mixture) })
}
