package sieve_test

import (
	"math"
	"slices"
	"testing"

	"nochez/api"
	"nochez/sieve"
)

type change struct {
	name string
	make func(x *sieve.Lot)
	want api.Errno
}

// changes are changes of the lot of the examples with a result of each test, and the error of the lot after them.
func changes() []change {
	return []change{
		{"none", func(x *sieve.Lot) {}, api.OK},
		{"nothing", func(x *sieve.Lot) { *x = sieve.Lot{} }, api.ErrArg},
		{"-1 things", func(x *sieve.Lot) { x.Things = -1 }, api.ErrArg},
		{"0 things", func(x *sieve.Lot) { x.Things = 0 }, api.ErrArg},
		{"0 things, tests of 0", func(x *sieve.Lot) { x.Things, x.Tests = 0, lists(nil, nil) }, api.ErrArg},
		{"0 things, no tests", func(x *sieve.Lot) { *x = sieve.Lot{Whole: 10} }, api.ErrArg},
		{"1 thing", func(x *sieve.Lot) { x.Things, x.Tests = 1, lists(list(100), list(0)) }, api.OK},
		{"2 things, tests of 3", func(x *sieve.Lot) { x.Things = 2 }, api.ErrArg},
		{"4 things, tests of 3", func(x *sieve.Lot) { x.Things = 4 }, api.ErrArg},
		{"4 things", func(x *sieve.Lot) { x.Things, x.Tests = 4, lists(list(100, 0, 0, 1), list(1, 2, 3, 4)) }, api.OK},
		{"5 things", func(x *sieve.Lot) { x.Things, x.Tests = 5, lists(list(100, 0, 0, 1, 0), list(1, 2, 3, 4, 5)) }, api.ErrLimit},
		{"5 things, tests of 3", func(x *sieve.Lot) { x.Things = 5 }, api.ErrLimit},
		{"5 things, a Whole below 0", func(x *sieve.Lot) { x.Things, x.Whole = 5, -1 }, api.ErrLimit},
		{"5 things, a wrong result", func(x *sieve.Lot) { x.Things, x.Results[0].Test = 5, -1 }, api.ErrLimit},
		{"the most things", func(x *sieve.Lot) { x.Things = math.MaxInt }, api.ErrLimit},
		{"the fewest things", func(x *sieve.Lot) { x.Things = math.MinInt }, api.ErrArg},
		{"a Whole of -1", func(x *sieve.Lot) { x.Whole = -1 }, api.ErrArg},
		{"a Whole of 0", func(x *sieve.Lot) { x.Whole = 0 }, api.OK},
		{"a Whole of 30", func(x *sieve.Lot) { x.Whole = 30 }, api.OK},
		{"a Whole of 31", func(x *sieve.Lot) { x.Whole = 31 }, api.ErrLimit},
		{"a Whole of 31, no things", func(x *sieve.Lot) { x.Things, x.Whole = 0, 31 }, api.ErrLimit},
		{"a Whole of 31, a wrong test", func(x *sieve.Lot) { x.Whole, x.Tests[0][0] = 31, -1 }, api.ErrLimit},
		{"the greatest Whole", func(x *sieve.Lot) { x.Whole = math.MaxInt }, api.ErrLimit},
		{"the smallest Whole", func(x *sieve.Lot) { x.Whole = math.MinInt }, api.ErrArg},
		{"no tests", func(x *sieve.Lot) { x.Tests, x.Results = nil, nil }, api.OK},
		{"no tests for the results", func(x *sieve.Lot) { x.Tests = nil }, api.ErrArg},
		{"1 test for the results of 2", func(x *sieve.Lot) { x.Tests = x.Tests[:1] }, api.ErrArg},
		{"5 tests", func(x *sieve.Lot) { x.Tests = slices.Repeat(x.Tests[:1], 5) }, api.OK},
		{"6 tests", func(x *sieve.Lot) { x.Tests = slices.Repeat(x.Tests[:1], 6) }, api.ErrLimit},
		{"6 wrong tests", func(x *sieve.Lot) { x.Tests = make([][]int, 6) }, api.ErrLimit},
		{"6 tests, no things", func(x *sieve.Lot) { x.Things, x.Tests = 0, make([][]int, 6) }, api.ErrLimit},
		{"a test without numbers", func(x *sieve.Lot) { x.Tests[1] = nil }, api.ErrArg},
		{"a test of 2 things", func(x *sieve.Lot) { x.Tests[0] = list(100, 20) }, api.ErrArg},
		{"a test of 4 things", func(x *sieve.Lot) { x.Tests[1] = list(0, 0, 100, 0) }, api.ErrArg},
		{"a test that keeps -1", func(x *sieve.Lot) { x.Tests[0][0] = -1 }, api.ErrArg},
		{"a test that keeps nothing", func(x *sieve.Lot) { x.Tests[0] = list(0, 0, 0) }, api.OK},
		{"a test that keeps all", func(x *sieve.Lot) { x.Tests[1] = list(100, 100, 100) }, api.OK},
		{"a test that keeps 101", func(x *sieve.Lot) { x.Tests[0][2] = 101 }, api.ErrArg},
		{"the last test keeps -1 of the last thing", func(x *sieve.Lot) { x.Tests[1][2] = -1 }, api.ErrArg},
		{"the last test keeps 101 of the thing in the middle", func(x *sieve.Lot) { x.Tests[1][1] = 101 }, api.ErrArg},
		{"a test that keeps the most", func(x *sieve.Lot) { x.Tests[0][1] = math.MaxInt }, api.ErrArg},
		{"a test that keeps the least", func(x *sieve.Lot) { x.Tests[0][1] = math.MinInt }, api.ErrArg},
		{"a wrong test without a result", func(x *sieve.Lot) { x.Tests[1][0], x.Results = 101, x.Results[:1] }, api.ErrArg},
		{"no results", func(x *sieve.Lot) { x.Results = nil }, api.OK},
		{"8 results", func(x *sieve.Lot) { x.Results = slices.Repeat(x.Results, 4) }, api.OK},
		{"9 results", func(x *sieve.Lot) { x.Results = append(slices.Repeat(x.Results, 4), kept()) }, api.ErrLimit},
		{"9 wrong results", func(x *sieve.Lot) { x.Results = append(make([]sieve.Result, 8), result(-1, 2, 1)) }, api.ErrLimit},
		{"9 results, no things", func(x *sieve.Lot) { x.Things, x.Results = 0, make([]sieve.Result, 9) }, api.ErrLimit},
		{"9 results, no tests", func(x *sieve.Lot) { x.Tests, x.Results = nil, make([]sieve.Result, 9) }, api.ErrLimit},
		{"a result of the test -1", func(x *sieve.Lot) { x.Results[0].Test = -1 }, api.ErrArg},
		{"two results of a test", func(x *sieve.Lot) { x.Results[0].Test = 1 }, api.OK},
		{"a result of the test 2", func(x *sieve.Lot) { x.Results[1].Test = 2 }, api.ErrArg},
		{"a result of the greatest test", func(x *sieve.Lot) { x.Results[1].Test = math.MaxInt }, api.ErrArg},
		{"a result of the smallest test", func(x *sieve.Lot) { x.Results[1].Test = math.MinInt }, api.ErrArg},
		{"kept from -1", func(x *sieve.Lot) { x.Results[0].Kept = to(-1, 5) }, api.ErrArg},
		{"kept 0", func(x *sieve.Lot) { x.Results[0].Kept = to(0, 0) }, api.OK},
		{"kept 3000", func(x *sieve.Lot) { x.Results[1].Kept = to(3000, 3000) }, api.OK},
		{"kept to 3001", func(x *sieve.Lot) { x.Results[1].Kept = to(5, 3001) }, api.ErrArg},
		{"kept below 0", func(x *sieve.Lot) { x.Results[1].Kept = to(-2, -1) }, api.ErrArg},
		{"kept above 3000", func(x *sieve.Lot) { x.Results[1].Kept = to(3001, 3001) }, api.ErrArg},
		{"kept upside down", func(x *sieve.Lot) { x.Results[1].Kept = to(26, 25) }, api.ErrArg},
		{"kept all numbers", func(x *sieve.Lot) { x.Results[0].Kept = to(math.MinInt, math.MaxInt) }, api.ErrArg},
		{"kept all numbers, upside down", func(x *sieve.Lot) { x.Results[0].Kept = to(math.MaxInt, math.MinInt) }, api.ErrArg},
	}
}

// both is the lot that is changed.
func both() sieve.Lot { return lead(kept(), result(1, 50, 350)) }

// P7.1
func TestCheckLot(t *testing.T) {
	for _, y := range changes() {
		x := both()
		y.make(&x)
		if e := sieve.CheckLot(x); e != y.want {
			t.Errorf("%s: CheckLot of %v: %v", y.name, x, e)
		}
	}
}

// broken has lots that are valid, but not consistent.
func broken() []sieve.Lot {
	return []sieve.Lot{
		lead(kept(), result(0, 900, 1000)), lead(result(0, 841, 899)), lead(result(1, 1, 99)), lead(result(0, 1001, 3000)), lead(result(0, 0, 199)),
		lead(kept(), result(1, 801, 900)), {Things: 1, Tests: lists(list(100)), Results: []sieve.Result{result(0, 1, 3000)}},
	}
}

// A lot is valid even if its results contradict each other.
func TestCheckLotThatIsNotConsistent(t *testing.T) {
	for _, x := range broken() {
		if e := sieve.CheckLot(x); e != api.OK {
			t.Errorf("CheckLot of %v: %v", x, e)
		}
	}
}

// answer has the error of a call, and whether all its other results are zero values.
type answer struct {
	call string
	e    api.Errno
	zero bool
}

func answerOf(call string, e api.Errno, others ...[]int) answer {
	a := answer{call, e, true}
	for _, l := range others {
		a.zero = a.zero && len(l) == 0
	}
	return a
}

// asked is what a lot is asked for.
type asked struct {
	thing         int
	limits, tests []int
}

// The calls of ask, by their indexes.
const (
	callCheck = iota
	callRanges
	callLow
	callHigh
	callOver
	callLeave
	callPair
	callTests
)

// ask calls all that has an error.
func ask(x sieve.Lot, y asked) []answer {
	r, e1 := sieve.Ranges(x)
	low, e2 := sieve.Show(x, y.thing, false)
	high, e3 := sieve.Show(x, y.thing, true)
	over, e4 := sieve.Over(x, y.limits)
	set, e5 := sieve.Leave(x)
	one, two, e6 := sieve.Pair(x, y.limits, y.tests)
	tests, e7 := sieve.Tests(x, y.limits)
	found := answerOf("Ranges", e1)
	found.zero = len(r) == 0
	return []answer{
		answerOf("CheckLot", sieve.CheckLot(x)), found, answerOf("Show", e2, low), answerOf("Show, high", e3, high), answerOf("Over", e4, over),
		answerOf("Leave", e5, set), answerOf("Pair", e6, one, two), answerOf("Tests", e7, tests),
	}
}

// A wrong lot counts before a wrong thing, limits and tests (R1); with an error all else is zero (R2).
func TestErrorOfTheLot(t *testing.T) {
	for _, y := range changes() {
		if y.want == api.OK {
			continue
		}
		x := both()
		y.make(&x)
		for _, z := range []asked{{0, limits(), nil}, {-1, nil, list(1, 0)}, {7, list(31), list(7)}, {math.MaxInt, list(math.MinInt, 0, 0), list(math.MaxInt)}, {math.MinInt, limits(), list(math.MinInt)}} {
			for _, a := range ask(x, z) {
				if a.e != y.want || !a.zero {
					t.Errorf("%s, %v: %v", y.name, z, a)
				}
			}
		}
		for _, m := range lists(nil, list(7, 2, 1), list(8, 2, 0), list(0), list(10), list(10, 0), list(7, 2, 1, 0), list(7, 2, 1, 0, 0), list(29, 1, 1), list(-1, 0, 0)) {
			if sieve.ProveMixture(x, m) {
				t.Errorf("%s: ProveMixture of %v", y.name, m)
			}
		}
	}
}

// wrongThings, wrongLimits and wrongSets have what does not belong to the lot of the examples.
func wrongThings() []int { return list(-1, 3, 4, math.MaxInt, math.MinInt) }

func wrongLimits() [][]int {
	return lists(nil, list(10), list(10, 3), list(10, 3, 1, 1), list(-1, 3, 1), list(10, -1, 1), list(10, 3, -1), list(31, 3, 1), list(10, 31, 1), list(10, 3, 31), list(math.MaxInt, 3, 1), list(10, 3, math.MinInt))
}

func wrongSets() [][]int {
	return lists(list(-1), list(2), list(0, 2), list(-1, 0), list(1, 0), list(0, 0), list(1, 1), list(0, 1, 1), list(0, 1, 0), list(0, 1, 2), list(math.MaxInt), list(math.MinInt), list(math.MinInt, math.MaxInt))
}

// refuses checks that some calls return ErrRange, and nothing else.
func refuses(t *testing.T, x sieve.Lot, y asked, calls ...int) {
	t.Helper()
	all := ask(x, y)
	for _, i := range calls {
		if a := all[i]; a.e != api.ErrRange || !a.zero {
			t.Errorf("%v, %v: %v", x, y, a)
		}
	}
}

// A thing, limits and tests that do not belong to the lot count before what is not consistent, what decides, and what none decide.
func TestErrorsOfThingLimitsAndTests(t *testing.T) {
	for _, x := range []sieve.Lot{lead(kept()), lead(), both(), lead(kept(), result(0, 900, 1000)), lead(result(0, 1001, 3000))} {
		for _, thing := range wrongThings() {
			refuses(t, x, asked{thing, limits(), nil}, callLow, callHigh)
		}
		for _, l := range wrongLimits() {
			refuses(t, x, asked{0, l, list(1)}, callOver, callPair, callTests)
		}
		for _, set := range wrongSets() {
			refuses(t, x, asked{0, limits(), set}, callPair)
			refuses(t, x, asked{0, list(10, 10, 10), set}, callPair)
		}
	}
	testless := tested(lead())
	refuses(t, testless, asked{0, limits(), list(0)}, callPair)
	refuses(t, testless, asked{0, limits()[:2], nil}, callOver, callPair, callTests)
}

// What is just allowed has no such error.
func TestThingLimitsAndTestsThatBelong(t *testing.T) {
	for thing := range 3 {
		for _, l := range lists(list(0, 0, 0), list(30, 30, 30), list(0, 30, 10), limits()) {
			for _, set := range lists(nil, list(), list(0), list(1), list(0, 1)) {
				for i, a := range ask(lead(kept()), asked{thing, l, set}) {
					if a.e != api.OK && !(i == callPair && a.e == api.ErrNone) {
						t.Errorf("%d, %v, %v: %v", thing, l, set, a)
					}
				}
			}
		}
	}
}

// What is not consistent has nothing but a smallest set.
func TestErrorOfWhatIsNotConsistent(t *testing.T) {
	for _, x := range broken() {
		l := limits()[:x.Things]
		for i, a := range ask(x, asked{0, l, list(0)}) {
			want := api.ErrFail
			if i == callCheck || i == callLeave {
				want = api.OK
			}
			if a.e != want || want != api.OK && !a.zero {
				t.Errorf("%v: %v", x, a)
			}
		}
		numbers(x, 0, x.Whole, func(m []int) {
			if sieve.ProveMixture(x, m) {
				t.Errorf("%v: ProveMixture of %v", x, m)
			}
		})
	}
}

// At the ends the lot is still consistent.
func TestJustConsistent(t *testing.T) {
	for _, x := range []sieve.Lot{
		lead(kept(), result(0, 840, 1000)), lead(kept(), result(0, 0, 840)), lead(result(0, 840, 899)), lead(result(0, 841, 920)), lead(result(1, 1, 100)), lead(result(0, 1000, 3000)), lead(result(0, 0, 200)),
		lead(kept(), result(1, 800, 900)), {Things: 1, Tests: lists(list(100)), Results: []sieve.Result{result(0, 0, 3000)}},
	} {
		if r, e := sieve.Ranges(x); len(r) != x.Things || e != api.OK {
			t.Errorf("Ranges of %v: %v, %v", x, r, e)
		}
	}
}

// Pair and Tests have errors of their own, for what is otherwise right.
func TestErrorsOfWhatDecides(t *testing.T) {
	for _, y := range []struct {
		name        string
		x           sieve.Lot
		limits, set []int
		pair, tests api.Errno
	}{
		{"a pair, and tests", lead(kept()), limits(), list(0), api.OK, api.OK},
		{"the set decides", lead(kept()), limits(), list(1), api.ErrNone, api.OK},
		{"no tests are needed", lead(kept()), list(10, 2, 8), nil, api.ErrNone, api.OK},
		{"no mixture is within the limits", lead(kept()), list(10, 1, 10), nil, api.ErrNone, api.OK},
		{"no tests, and none that decide", tested(lead()), limits(), nil, api.OK, api.ErrMiss},
		{"all tests do not decide", tested(lead(), list(1, 1, 1), list(5, 5, 5)), limits(), list(0, 1), api.OK, api.ErrMiss},
		{"without tests, but nothing is possible beyond the limits", tested(lead()), list(10, 10, 10), nil, api.ErrNone, api.OK},
	} {
		all := ask(y.x, asked{0, y.limits, y.set})
		if a := all[callPair]; a.e != y.pair || a.zero != (y.pair != api.OK) {
			t.Errorf("%s: %v, not %v", y.name, a, y.pair)
		}
		if a := all[callTests]; a.e != y.tests || y.tests != api.OK && !a.zero {
			t.Errorf("%s: %v, not %v", y.name, a, y.tests)
		}
	}
}
