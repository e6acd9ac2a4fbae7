package sieve_test

import (
	"math"
	"math/rand/v2"
	"slices"
	"testing"

	"nochez/api"
	"nochez/sieve"
)

// P7.1
func TestProveMixture(t *testing.T) {
	one := sieve.Lot{Things: 1, Whole: 7, Tests: lists(list(10))}
	for _, y := range []struct {
		name    string
		x       sieve.Lot
		mixture []int
		want    bool
	}{
		{"a mixture", lead(), list(5, 3, 2), true},
		{"all is one thing", lead(), list(0, 0, 10), true},
		{"less than Whole", lead(), list(5, 3, 1), false},
		{"more than Whole", lead(), list(5, 3, 3), false},
		{"below 0", lead(), list(11, 0, -1), false},
		{"below 0 first", lead(), list(-1, 11, 0), false},
		{"nothing", lead(), nil, false},
		{"too few things", lead(), list(5, 5), false},
		{"too many things", lead(), list(5, 3, 2, 0), false},
		{"a possible mixture", lead(kept()), list(5, 2, 3), true},
		{"too much is kept", lead(kept()), list(6, 1, 3), false},
		{"too little is kept", lead(kept()), list(5, 3, 2), false},
		{"just what was kept at least", lead(result(0, 840, 900)), list(5, 2, 3), true},
		{"just what was kept at most", lead(result(0, 800, 840)), list(5, 2, 3), true},
		{"less than what was kept", lead(result(0, 841, 900)), list(5, 2, 3), false},
		{"more than what was kept", lead(result(0, 800, 839)), list(5, 2, 3), false},
		{"of another test", lead(result(1, 300, 300)), list(5, 2, 3), true},
		{"of another test, too much", lead(result(1, 0, 299)), list(5, 2, 3), false},
		{"two results", lead(kept(), result(1, 300, 300)), list(5, 2, 3), true},
		{"the first of two is wrong", lead(result(1, 301, 400), kept()), list(5, 2, 3), false},
		{"the last of two is wrong", lead(kept(), result(1, 301, 400)), list(5, 2, 3), false},
		{"the one in the middle is wrong", lead(kept(), result(0, 0, 839), result(1, 300, 300)), list(5, 2, 3), false},
		{"two results of a test", lead(result(0, 800, 840), result(0, 840, 900)), list(5, 2, 3), true},
		{"one thing", one, list(7), true},
		{"one thing, too little", one, list(6), false},
		{"one thing, what was kept", with(one, result(0, 70, 70)), list(7), true},
		{"one thing, not what was kept", with(one, result(0, 71, 80)), list(7), false},
		{"nothing at all", sieve.Lot{Things: 4}, list(0, 0, 0, 0), true},
		{"something of nothing", sieve.Lot{Things: 4}, list(0, 1, 0, 0), false},
		{"less than nothing, together nothing", sieve.Lot{Things: 2}, list(1, -1), false},
		{"numbers that are Whole together if they overflow", lead(), list(math.MaxInt, math.MaxInt, 12), false},
		{"numbers that are Whole together, but below 0", lead(), list(math.MinInt, math.MaxInt, 11), false},
		{"the smallest numbers", lead(), list(math.MinInt, math.MinInt, 10), false},
		{"as much as there may be", sieve.Lot{Things: 4, Whole: 30, Tests: lists(list(100, 100, 100, 100)), Results: []sieve.Result{result(0, 3000, 3000)}}, list(30, 0, 0, 0), true},
		{"a lot that is not valid", sieve.Lot{}, nil, false},
		{"a lot that is too large", sieve.Lot{Things: 1, Whole: 31}, list(31), false},
	} {
		if sieve.ProveMixture(y.x, y.mixture) != y.want {
			t.Errorf("%s: ProveMixture of %v, %v: not %v", y.name, y.x, y.mixture, y.want)
		}
	}
}

// tries calls a function with lots that have few mixtures, and with all possible ones.
func tries(seed uint64, call func(r *rand.Rand, x sieve.Lot, all [][]int)) {
	r := chance(seed)
	for range 2000 {
		x := draw(r, small)
		call(r, x, possible(x))
	}
}

// P7.1: ProveMixture holds for just the possible mixtures of the reference.
func TestProveMixtureByAllNumbers(t *testing.T) {
	yes, no := 0, 0
	tries(11, func(_ *rand.Rand, x sieve.Lot, all [][]int) {
		numbers(x, -1, x.Whole+1, func(m []int) {
			_, want := slices.BinarySearchFunc(all, m, slices.Compare)
			if sieve.ProveMixture(x, m) != want {
				t.Fatalf("ProveMixture of %v, %v: not %v", x, m, want)
			}
			if want {
				yes++
			} else if sum(m) == x.Whole && slices.Min(m) >= 0 {
				no++
			}
		})
	})
	if yes < 10000 || no < 10000 {
		t.Errorf("%d are possible, %d mixtures are not", yes, no)
	}
}

// checkRanges checks Ranges, Show and Over by all possible mixtures of a lot, and reports whether it is consistent.
func checkRanges(t *testing.T, r *rand.Rand, x sieve.Lot, all [][]int) bool {
	t.Helper()
	found, e1 := sieve.Ranges(x)
	limits := drawLimits(r, x)
	over, e2 := sieve.Over(x, limits)
	if len(all) == 0 {
		_, e3 := sieve.Show(x, 0, true)
		if e1 != api.ErrFail || e2 != api.ErrFail || e3 != api.ErrFail {
			t.Fatalf("%v: %v, %v, %v", x, e1, e2, e3)
		}
		return false
	}
	want, beyond := rangesOf(x, all), []int(nil)
	if !slices.Equal(found, want) || e1 != api.OK {
		t.Fatalf("Ranges of %v: %v, %v, not %v", x, found, e1, want)
	}
	for i := range x.Things {
		if slices.ContainsFunc(all, func(m []int) bool { return m[i] > limits[i] }) {
			beyond = append(beyond, i)
		}
		for high, n := range map[bool]int{false: want[i].Lo, true: want[i].Hi} {
			if m, e := sieve.Show(x, i, high); !slices.Equal(m, firstWith(all, i, n)) || e != api.OK {
				t.Fatalf("Show of %v, %d, %v: %v, %v, not %v", x, i, high, m, e, firstWith(all, i, n))
			}
		}
	}
	if !slices.Equal(over, beyond) || e2 != api.OK {
		t.Fatalf("Over of %v, %v: %v, %v, not %v", x, limits, over, e2, beyond)
	}
	return true
}

// P7.2, P7.3, P7.4, P2: the ranges are those of all possible mixtures, and the first one at each end is shown.
func TestRangesShowAndOverByAllMixtures(t *testing.T) {
	some, none := 0, 0
	tries(12, func(r *rand.Rand, x sieve.Lot, all [][]int) {
		if checkRanges(t, r, x, all) {
			some++
		} else {
			none++
		}
	})
	r := chance(13)
	for range 100 {
		x := draw(r, middle)
		checkRanges(t, r, x, possible(x))
	}
	for range 8 {
		x := draw(r, large)
		checkRanges(t, r, x, possible(x))
	}
	if some < 800 || none < 300 {
		t.Errorf("%d lots are consistent, %d are not", some, none)
	}
}

// P7.2, by hand: what bounds one thing bounds the others.
func TestRanges(t *testing.T) {
	four := sieve.Lot{Things: 4, Whole: 30, Tests: lists(list(100, 0, 0, 0), list(0, 100, 50, 0), list(1, 1, 1, 1))}
	for _, y := range []struct {
		name string
		x    sieve.Lot
		want []sieve.Range
	}{
		{"no results", lead(), row(to(0, 10), to(0, 10), to(0, 10))},
		{"no tests", tested(lead()), row(to(0, 10), to(0, 10), to(0, 10))},
		{"a wide result", lead(result(0, 700, 899)), row(to(0, 8), to(2, 3), to(0, 8))},
		{"two tests", lead(kept(), result(1, 50, 350)), row(to(5, 7), to(2, 2), to(1, 3))},
		{"two results of a test", lead(result(0, 700, 900), result(0, 800, 1000)), row(to(0, 8), to(2, 2), to(0, 8))},
		{"all is kept", lead(result(0, 1000, 1000)), row(to(0, 10), to(0, 0), to(0, 10))},
		{"nothing is kept", lead(result(1, 0, 99)), row(to(0, 10), to(0, 10), to(0, 0))},
		{"all is known", lead(kept(), result(1, 300, 300)), row(to(5, 5), to(2, 2), to(3, 3))},
		{"one thing", sieve.Lot{Things: 1, Whole: 7}, row(to(7, 7))},
		{"one thing of 30", sieve.Lot{Things: 1, Whole: 30, Tests: lists(list(100)), Results: []sieve.Result{result(0, 3000, 3000)}}, row(to(30, 30))},
		{"nothing at all", sieve.Lot{Things: 4}, row(to(0, 0), to(0, 0), to(0, 0), to(0, 0))},
		{"four things", four, row(to(0, 30), to(0, 30), to(0, 30), to(0, 30))},
		{"four things, the first is known", with(four, result(0, 1000, 1099)), row(to(10, 10), to(0, 20), to(0, 20), to(0, 20))},
		{"four things, two results", with(four, result(0, 1000, 1500), result(1, 1300, 1499)), row(to(10, 15), to(6, 14), to(0, 14), to(0, 7))},
		{"a test that tells nothing", with(four, result(2, 30, 30)), row(to(0, 30), to(0, 30), to(0, 30), to(0, 30))},
	} {
		t.Run(y.name, func(t *testing.T) { ranges(t, y.x, y.want...) })
	}
}

// P7.3, by hand: of several mixtures at an end the first one is shown.
func TestShow(t *testing.T) {
	for _, y := range []struct {
		name  string
		x     sieve.Lot
		thing int
		high  bool
		want  []int
	}{
		{"the least of the first thing", lead(), 0, false, list(0, 0, 10)},
		{"the most of the first thing", lead(), 0, true, list(10, 0, 0)},
		{"the least of the second thing", lead(), 1, false, list(0, 0, 10)},
		{"the most of the second thing", lead(), 1, true, list(0, 10, 0)},
		{"the least of the last thing", lead(), 2, false, list(0, 10, 0)},
		{"the most of the last thing", lead(), 2, true, list(0, 0, 10)},
		{"a thing that is known", lead(kept()), 1, true, list(0, 2, 8)},
		{"a thing that is known, not high", lead(kept()), 1, false, list(0, 2, 8)},
		{"a wide result", lead(result(0, 700, 899)), 1, true, list(0, 3, 7)},
		{"a wide result, not high", lead(result(0, 700, 899)), 1, false, list(0, 2, 8)},
		{"a wide result, the last thing", lead(result(0, 700, 899)), 2, false, list(7, 3, 0)},
		{"nothing at all", sieve.Lot{Things: 3}, 2, true, list(0, 0, 0)},
	} {
		if m, e := sieve.Show(y.x, y.thing, y.high); !slices.Equal(m, y.want) || e != api.OK {
			t.Errorf("%s: Show of %v, %d, %v: %v, %v, not %v", y.name, y.x, y.thing, y.high, m, e, y.want)
		}
	}
}

// P7.4, by hand
func TestOver(t *testing.T) {
	for _, y := range []struct {
		name   string
		x      sieve.Lot
		limits []int
		want   []int
	}{
		{"each limit is the end of its range", lead(kept()), list(8, 2, 8), nil},
		{"one less than the end", lead(kept()), list(7, 2, 8), list(0)},
		{"one less than the end of the second thing", lead(kept()), list(8, 1, 8), list(1)},
		{"one less than each end", lead(kept()), list(7, 1, 7), list(0, 1, 2)},
		{"nothing is allowed", lead(kept()), list(0, 0, 0), list(0, 1, 2)},
		{"all is allowed", lead(kept()), list(30, 30, 30), nil},
		{"beyond each limit, but not in one mixture", lead(), list(5, 10, 5), list(0, 2)},
		{"nothing at all", sieve.Lot{Things: 2}, list(0, 0), nil},
		{"one thing", sieve.Lot{Things: 1, Whole: 7}, list(6), list(0)},
		{"one thing, all of it", sieve.Lot{Things: 1, Whole: 7}, list(7), nil},
	} {
		if over, e := sieve.Over(y.x, y.limits); !slices.Equal(over, y.want) || e != api.OK {
			t.Errorf("%s: Over of %v, %v: %v, %v, not %v", y.name, y.x, y.limits, over, e, y.want)
		}
	}
}

// P7.5, P7.13, P6: any set is tried, by all mixtures.
func TestLeaveByAllMixtures(t *testing.T) {
	var lengths [6]int
	check := func(x sieve.Lot) {
		set, e := sieve.Leave(x)
		all := possible(without(x, list(0, 1, 2, 3, 4, 5, 6, 7)))
		for _, want := range sets(len(x.Results)) {
			left := without(x, want)
			if slices.ContainsFunc(all, func(m []int) bool { return agrees(left, m) }) {
				lengths[min(5, len(want))]++
				if !slices.Equal(set, want) || e != api.OK {
					t.Fatalf("Leave of %v: %v, %v, not %v", x, set, e, want)
				}
				return
			}
		}
	}
	tries(14, func(_ *rand.Rand, x sieve.Lot, _ [][]int) { check(x) })
	r := chance(15)
	for range 200 {
		check(draw(r, middle))
	}
	if lengths[0] < 800 || lengths[1] < 200 || lengths[2] < 50 || lengths[3] < 5 {
		t.Errorf("so many sets of each length: %v", lengths)
	}
}

func TestLeave(t *testing.T) {
	low, high, never := result(0, 200, 400), result(0, 840, 900), result(0, 1001, 3000)
	for _, y := range []struct {
		name string
		x    sieve.Lot
		want []int
	}{
		{"no results", lead(), nil},
		{"no tests", tested(lead()), nil},
		{"results that agree", lead(low, low), nil},
		{"the first of two", lead(low, high), list(0)},
		{"the first of two, the other way", lead(high, low), list(0)},
		{"the one against two", lead(low, high, low), list(1)},
		{"the last one", lead(low, low, high), list(2)},
		{"one by itself", lead(low, never, low), list(1)},
		{"one by itself, and one of two", lead(never, low, high), list(0, 1)},
		{"the first two of four", lead(low, high, low, high), list(0, 2)},
		{"the last two of four", lead(low, low, never, never), list(2, 3)},
		{"all", lead(never, never, never), list(0, 1, 2)},
		{"all of eight", lead(never, never, never, never, never, never, never, never), list(0, 1, 2, 3, 4, 5, 6, 7)},
		{"seven of eight", lead(never, never, never, never, never, low, never, never), list(0, 1, 2, 3, 4, 6, 7)},
		{"a result between whole numbers", lead(kept(), result(1, 1, 99)), list(1)},
		{"one against two of another test", lead(kept(), result(1, 801, 1000), result(0, 0, 899)), list(1)},
		{"three that agree by twos", tested(lead(result(0, 4, 10), result(1, 4, 10), result(2, 4, 10)), list(1, 0, 0), list(0, 1, 0), list(0, 0, 1)), list(0)},
		{"by another test", lead(result(1, 900, 1000), high, result(1, 900, 1000), result(1, 900, 900)), list(1)},
		{"the first of two, though more is possible without the second", lead(kept(), result(0, 900, 1000)), list(0)},
		{"nothing at all was kept, and something", sieve.Lot{Things: 1, Tests: lists(list(100)), Results: []sieve.Result{result(0, 0, 5), result(0, 1, 5)}}, list(1)},
	} {
		if set, e := sieve.Leave(y.x); !slices.Equal(set, y.want) || e != api.OK {
			t.Errorf("%s: Leave of %v: %v, %v, not %v", y.name, y.x, set, e, y.want)
		}
	}
}

// P7.6, P7.7, P7.11: all pairs of possible mixtures are compared for all sets of tests.
func TestPairAndTestsByAllMixtures(t *testing.T) {
	pairs, decided, miss, later := 0, 0, 0, 0
	var lengths [5]int
	tries(16, func(r *rand.Rand, x sieve.Lot, all [][]int) {
		limits := drawLimits(r, x)
		fewest, e := sieve.Tests(x, limits)
		if len(all) == 0 {
			if one, two, f := sieve.Pair(x, limits, nil); e != api.ErrFail || f != api.ErrFail || len(fewest)+len(one)+len(two) > 0 {
				t.Fatalf("%v: %v, %v; %v, %v, %v", x, fewest, e, one, two, f)
			}
			return
		}
		want, can := []int(nil), false
		for _, set := range sets(len(x.Tests)) {
			one, two := pairOf(x, all, limits, set)
			a, b, f := sieve.Pair(x, limits, set)
			if one == nil && f != api.ErrNone || one != nil && f != api.OK || !slices.Equal(a, one) || !slices.Equal(b, two) {
				t.Fatalf("Pair of %v, %v, %v: %v, %v, %v, not %v, %v", x, limits, set, a, b, f, one, two)
			}
			if one == nil {
				decided++
			} else if pairs++; !slices.Equal(one, all[0]) {
				later++
			}
			if one == nil && !can {
				want, can = set, true
			}
		}
		if !slices.Equal(fewest, want) || can && e != api.OK || !can && e != api.ErrMiss {
			t.Fatalf("Tests of %v, %v: %v, %v, not %v, %v", x, limits, fewest, e, want, can)
		}
		if can {
			lengths[len(want)]++
		} else {
			miss++
		}
	})
	if pairs < 500 || decided < 1000 || later < 300 || miss < 50 || lengths[0] < 100 || lengths[1] < 50 || lengths[2] < 10 {
		t.Errorf("%d pairs, %d of them later, %d sets that decide; so many fewest tests of each length: %v; none of %d", pairs, later, decided, lengths, miss)
	}
}

// P7.6, by hand
func TestPair(t *testing.T) {
	halves := tested(lead(), list(0, 50, 50), list(0, 0, 0), list(100, 100, 100))
	last := tested(lead(), list(1, 1, 1), list(2, 2, 2), list(3, 3, 3), list(4, 4, 4), list(0, 0, 100))
	for _, y := range []struct {
		name        string
		x           sieve.Lot
		limits, set []int
		one, two    []int
	}{
		{"no results", lead(), limits(), nil, list(6, 3, 1), list(0, 0, 10)},
		{"the sieve", lead(), limits(), list(0), list(6, 3, 1), list(0, 3, 7)},
		{"water", lead(), limits(), list(1), list(6, 3, 1), list(0, 9, 1)},
		{"both", lead(), limits(), list(0, 1), nil, nil},
		{"the first thing is limited", lead(), list(4, 10, 10), list(1), list(0, 5, 5), list(5, 0, 5)},
		{"the first mixture beyond comes before the one within", lead(), list(10, 10, 4), nil, list(0, 6, 4), list(0, 0, 10)},
		{"the one within comes first", lead(), list(4, 10, 10), nil, list(0, 0, 10), list(5, 0, 5)},
		{"not the first one within, but the first one that is alike to one beyond", lead(), list(8, 10, 10), list(1), list(0, 9, 1), list(9, 0, 1)},
		{"halves", halves, limits(), list(0), list(6, 3, 1), list(6, 0, 4)},
		{"a test that keeps nothing", halves, limits(), list(1), list(6, 3, 1), list(0, 0, 10)},
		{"tests that keep as much of all", halves, limits(), list(1, 2), list(6, 3, 1), list(0, 0, 10)},
		{"five tests, of which the last one decides", last, list(10, 10, 1), list(0, 1, 2, 3, 4), nil, nil},
		{"four tests without the one that decides", last, list(10, 10, 1), list(0, 1, 2, 3), list(0, 9, 1), list(0, 0, 10)},
		{"nothing is within the limits", lead(), list(3, 3, 3), nil, nil, nil},
		{"just one mixture is within the limits", lead(), list(4, 3, 3), nil, list(4, 3, 3), list(0, 0, 10)},
		{"all is within the limits", lead(), list(10, 10, 10), nil, nil, nil},
		{"nothing at all", sieve.Lot{Things: 2}, list(0, 0), nil, nil, nil},
		{"one thing", sieve.Lot{Things: 1, Whole: 7}, list(6), nil, nil, nil},
	} {
		t.Run(y.name, func(t *testing.T) { pair(t, y.x, y.limits, y.set, y.one, y.two) })
	}
}

// P7.7, by hand
func TestTests(t *testing.T) {
	for _, y := range []struct {
		name   string
		x      sieve.Lot
		limits []int
		want   []int
		e      api.Errno
	}{
		{"both tests", lead(), list(10, 1, 1), list(0, 1), api.OK},
		{"the first test", lead(), list(10, 1, 10), list(0), api.OK},
		{"the second test", lead(), list(10, 10, 1), list(1), api.OK},
		{"the first of two that decide", tested(lead(kept()), list(100, 20, 100), list(0, 50, 50), list(0, 0, 100)), limits(), list(1), api.OK},
		{"without the result it decides only with another one", tested(lead(), list(100, 20, 100), list(0, 50, 50)), limits(), list(0, 1), api.OK},
		{"the first of equal tests", tested(lead(), list(0, 0, 100), list(0, 0, 50), list(0, 0, 1)), list(10, 10, 1), list(0), api.OK},
		{"none is needed", lead(kept()), list(8, 2, 8), nil, api.OK},
		{"none is needed, as nothing is within the limits", lead(), list(3, 3, 3), nil, api.OK},
		{"none is needed, and there is none", tested(lead()), list(10, 10, 10), nil, api.OK},
		{"none decides, and there is none", tested(lead()), limits(), nil, api.ErrMiss},
		{"all together do not decide", tested(lead(), list(100, 0, 0), list(50, 0, 0), list(100, 100, 100)), limits(), nil, api.ErrMiss},
		{"the sieve and a useless test", tested(lead(), list(1, 1, 1), list(100, 20, 100)), list(10, 1, 10), list(1), api.OK},
		{"the second and the last of five", tested(lead(), list(1, 1, 1), list(100, 20, 100), list(7, 7, 7), list(0, 0, 0), list(0, 0, 100)), list(10, 1, 1), list(1, 4), api.OK},
		{"three tests", sieve.Lot{Things: 4, Whole: 6, Tests: lists(list(1, 0, 0, 0), list(0, 1, 0, 0), list(0, 0, 1, 0))}, list(2, 2, 2, 6), list(0, 1, 2), api.OK},
		{"one test instead of three", sieve.Lot{Things: 4, Whole: 6, Tests: lists(list(1, 0, 0, 0), list(0, 1, 0, 0), list(0, 0, 1, 0), list(49, 7, 1, 0))}, list(2, 2, 2, 6), list(3), api.OK},
		{"nothing at all", sieve.Lot{Things: 2, Tests: lists(list(1, 2))}, list(0, 0), nil, api.OK},
	} {
		t.Run(y.name, func(t *testing.T) { fewest(t, y.x, y.limits, y.want, y.e) })
	}
}
