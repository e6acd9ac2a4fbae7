package sieve_test

import (
	"math/rand/v2"
	"slices"

	"nochez/sieve"
)

// The references go by the words of the definitions, and call nothing of the package: they try all lists of numbers, all pairs of mixtures, and all sets.

func to(low, high int) sieve.Range { return sieve.Range{Lo: low, Hi: high} }

func list(l ...int) []int { return l }

func lists(l ...[]int) [][]int { return l }

func row(l ...sieve.Range) []sieve.Range { return l }

func in(r sieve.Range, n int) bool { return r.Lo <= n && n <= r.Hi }

func inside(inner, outer sieve.Range) bool { return in(outer, inner.Lo) && in(outer, inner.Hi) }

func result(test, low, high int) sieve.Result {
	return sieve.Result{Test: test, Kept: to(low, high)}
}

// lead is the lot of the chapter's examples, with these results.
func lead(results ...sieve.Result) sieve.Lot {
	return sieve.Lot{Things: 3, Whole: 10, Tests: lists(list(100, 20, 100), list(0, 0, 100)), Results: results}
}

// kept is the result 0 of the chapter's examples.
func kept() sieve.Result { return result(0, 840, 840) }

// limits are those of the chapter's examples.
func limits() []int { return list(10, 3, 1) }

// with adds results to a lot.
func with(l sieve.Lot, results ...sieve.Result) sieve.Lot {
	l.Results = slices.Concat(l.Results, results)
	return l
}

// tested gives other tests to a lot.
func tested(l sieve.Lot, tests ...[]int) sieve.Lot {
	l.Tests = tests
	return l
}

// without leaves results out.
func without(l sieve.Lot, set []int) sieve.Lot {
	var left []sieve.Result
	for i, x := range l.Results {
		if !slices.Contains(set, i) {
			left = append(left, x)
		}
	}
	l.Results = left
	return l
}

// clone copies a lot, so that it can be changed.
func clone(l sieve.Lot) sieve.Lot {
	l.Tests, l.Results = slices.Clone(l.Tests), slices.Clone(l.Results)
	for i := range l.Tests {
		l.Tests[i] = slices.Clone(l.Tests[i])
	}
	return l
}

func sum(l []int) (n int) {
	for _, x := range l {
		n += x
	}
	return n
}

// keptOf returns what a test keeps of a mixture.
func keptOf(test, mixture []int) (n int) {
	for i := range mixture {
		n += test[i] * mixture[i]
	}
	return n
}

// agrees reports whether all results of a lot can be those of a mixture.
func agrees(l sieve.Lot, mixture []int) bool {
	for _, x := range l.Results {
		if !in(x.Kept, keptOf(l.Tests[x.Test], mixture)) {
			return false
		}
	}
	return true
}

// numbers calls a function with all lists of a lot's things that have numbers from a smallest one to a greatest one; the list is changed afterwards.
func numbers(l sieve.Lot, low, high int, call func([]int)) {
	m := slices.Repeat(list(low), l.Things)
	for {
		call(m)
		i := len(m) - 1
		for i >= 0 && m[i] == high {
			m[i] = low
			i--
		}
		if i < 0 {
			return
		}
		m[i]++
	}
}

// possible has all possible mixtures of a lot, in lexicographic order.
func possible(l sieve.Lot) (all [][]int) {
	numbers(l, 0, l.Whole, func(m []int) {
		if sum(m) == l.Whole && agrees(l, m) {
			all = append(all, slices.Clone(m))
		}
	})
	slices.SortFunc(all, slices.Compare)
	return all
}

// rangesOf has the range of each thing in some mixtures.
func rangesOf(l sieve.Lot, some [][]int) (all []sieve.Range) {
	for i := range l.Things {
		r := to(some[0][i], some[0][i])
		for _, m := range some {
			r = to(min(r.Lo, m[i]), max(r.Hi, m[i]))
		}
		all = append(all, r)
	}
	return all
}

// firstWith returns the first one of some mixtures in which a thing has a number.
func firstWith(some [][]int, thing, n int) []int {
	for _, m := range some {
		if m[thing] == n {
			return m
		}
	}
	return nil
}

// within reports whether a mixture is within limits.
func within(mixture, limits []int) bool {
	for i, n := range mixture {
		if n > limits[i] {
			return false
		}
	}
	return true
}

// alike reports whether two mixtures are alike for a set of tests.
func alike(l sieve.Lot, tests, one, two []int) bool {
	for _, i := range tests {
		if keptOf(l.Tests[i], one) != keptOf(l.Tests[i], two) {
			return false
		}
	}
	return true
}

// pairOf returns the pair of a set of tests among some mixtures, which are in lexicographic order, or nothing.
func pairOf(l sieve.Lot, some [][]int, limits, tests []int) (one, two []int) {
	for _, one := range some {
		for _, two := range some {
			if within(one, limits) && !within(two, limits) && alike(l, tests, one, two) {
				return one, two
			}
		}
	}
	return nil, nil
}

// sets has the sets of so many indexes, shorter ones first, and those of the same length in lexicographic order.
func sets(length int) (all [][]int) {
	for bits := range 1 << length {
		var set []int
		for i := range length {
			if bits>>i&1 == 1 {
				set = append(set, i)
			}
		}
		all = append(all, set)
	}
	slices.SortFunc(all, func(a, b []int) int {
		if len(a) != len(b) {
			return len(a) - len(b)
		}
		return slices.Compare(a, b)
	})
	return all
}

// size bounds the lots that are drawn.
type size struct{ whole, tests, results int }

var (
	// small lots have few mixtures, so that all of them can be compared with each other.
	small = size{whole: 5, tests: 4, results: 5}
	// middle lots have so many that all of them can be tried.
	middle = size{whole: 12, tests: 5, results: 8}
	// large lots reach the limits.
	large = size{whole: 30, tests: 5, results: 8}
)

func chance(seed uint64) *rand.Rand { return rand.New(rand.NewPCG(seed, 7)) }

func between(r *rand.Rand, low, high int) int { return low + r.IntN(high-low+1) }

// drawTest draws a test; often it keeps all or nothing of a thing, or as much of several things.
func drawTest(r *rand.Rand, things int) (test []int) {
	some := []int{0, 100, 50, 20, r.IntN(101)}
	for range things {
		n := r.IntN(101)
		if r.IntN(4) > 0 {
			n = some[r.IntN(len(some))]
		}
		test = append(test, n)
	}
	return test
}

// drawMixture draws a mixture of a lot, whatever its results are.
func drawMixture(r *rand.Rand, l sieve.Lot) []int {
	m := make([]int, l.Things)
	left := l.Whole
	for _, i := range r.Perm(l.Things) {
		m[i] = r.IntN(left + 1)
		left -= m[i]
	}
	m[r.IntN(l.Things)] += left
	return m
}

// around draws a range that has a number.
func around(r *rand.Rand, n, wide int) sieve.Range {
	return to(max(0, n-r.IntN(wide+1)), min(3000, n+r.IntN(wide+1)))
}

// drawResult draws a result of a mixture.
func drawResult(r *rand.Rand, l sieve.Lot, mixture []int) sieve.Result {
	i := r.IntN(len(l.Tests))
	wide := []int{0, 10, 100, 20 * l.Whole}[r.IntN(4)]
	return sieve.Result{Test: i, Kept: around(r, keptOf(l.Tests[i], mixture), wide)}
}

// drawLimits draws limits of a lot; often they are near to a mixture.
func drawLimits(r *rand.Rand, l sieve.Lot) (limits []int) {
	m, wide := drawMixture(r, l), r.IntN(4)
	for _, n := range m {
		switch r.IntN(4) {
		case 0:
			n = []int{0, l.Whole, 30}[r.IntN(3)]
		case 1:
			n = r.IntN(l.Whole + 1)
		}
		limits = append(limits, min(30, n+r.IntN(wide+1)))
	}
	return limits
}

// draw draws a valid lot; its results are those of one mixture, or of different ones and of none.
func draw(r *rand.Rand, z size) sieve.Lot {
	l := sieve.Lot{Things: min(4, between(r, 1, 6)), Whole: z.whole - r.IntN(3)}
	if r.IntN(4) == 0 {
		l.Whole = r.IntN(z.whole + 1)
	}
	for range r.IntN(z.tests + 1) {
		l.Tests = append(l.Tests, drawTest(r, l.Things))
	}
	if len(l.Tests) == 0 {
		return l
	}
	mixture, mixed := drawMixture(r, l), r.IntN(6) // of 5 results so many are those of others, or of none
	for range r.IntN(z.results + 1) {
		x := drawResult(r, l, mixture)
		if r.IntN(5) < mixed-1 {
			x = drawResult(r, l, drawMixture(r, l))
			if r.IntN(4) == 0 {
				x.Kept = around(r, r.IntN(3001), 100)
			}
		}
		l.Results = append(l.Results, x)
	}
	return l
}
