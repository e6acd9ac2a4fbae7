package sieve_test

import (
	"math/rand/v2"
	"slices"
	"testing"

	"nochez/api"
	"nochez/sieve"
)

// lots calls a function with lots of all sizes, consistent or not.
func lots(seed uint64, call func(r *rand.Rand, x sieve.Lot)) {
	r := chance(seed)
	for i, z := range []size{small, middle, large} {
		for range list(400, 200, 40)[i] {
			call(r, draw(r, z))
		}
	}
}

// rangesFound returns the ranges of a lot, and whether it is consistent.
func rangesFound(t *testing.T, x sieve.Lot) ([]sieve.Range, bool) {
	t.Helper()
	found, e := sieve.Ranges(x)
	if e != api.OK && e != api.ErrFail || e == api.OK && len(found) != x.Things {
		t.Fatalf("Ranges of %v: %v, %v", x, found, e)
	}
	return found, e == api.OK
}

// consistent calls a function with consistent lots of all sizes, and their ranges.
func consistent(t *testing.T, seed uint64, call func(r *rand.Rand, x sieve.Lot, found []sieve.Range)) {
	t.Helper()
	some := 0
	lots(seed, func(r *rand.Rand, x sieve.Lot) {
		if found, can := rangesFound(t, x); can {
			some++
			call(r, x, found)
		}
	})
	if some < 300 {
		t.Errorf("only %d lots are consistent", some)
	}
}

// decides reports whether a set of tests of a consistent lot decides, by Pair.
func decides(t *testing.T, x sieve.Lot, limits, set []int) bool {
	t.Helper()
	one, two, e := sieve.Pair(x, limits, set)
	if e != api.OK && e != api.ErrNone {
		t.Fatalf("Pair of %v, %v, %v: %v, %v, %v", x, limits, set, one, two, e)
	}
	return e == api.ErrNone
}

// P7.8, P2: whatever mixture is drawn, it is within all ranges if the results are those of it.
func TestTrueMixture(t *testing.T) {
	lots(21, func(r *rand.Rand, x sieve.Lot) {
		mixture := drawMixture(r, x)
		x.Results = slices.DeleteFunc(x.Results, func(y sieve.Result) bool { return !in(y.Kept, keptOf(x.Tests[y.Test], mixture)) })
		for len(x.Tests) > 0 && len(x.Results) < 8 && r.IntN(3) > 0 {
			x.Results = append(x.Results, drawResult(r, x, mixture))
		}
		found, can := rangesFound(t, x)
		if !can || !sieve.ProveMixture(x, mixture) {
			t.Fatalf("%v: %v is not possible", x, mixture)
		}
		for i, n := range mixture {
			if !in(found[i], n) {
				t.Fatalf("%v: %v is not within %v", x, mixture, found)
			}
		}
		if set, e := sieve.Leave(x); len(set) > 0 || e != api.OK {
			t.Fatalf("Leave of %v: %v, %v", x, set, e)
		}
	})
}

// P7.3, P2: what is shown is possible, and at the end of the range; beyond the range nothing is possible.
func TestEndsAreReached(t *testing.T) {
	consistent(t, 22, func(r *rand.Rand, x sieve.Lot, found []sieve.Range) {
		for i, y := range found {
			for high, n := range map[bool]int{false: y.Lo, true: y.Hi} {
				if m, e := sieve.Show(x, i, high); e != api.OK || !sieve.ProveMixture(x, m) || m[i] != n {
					t.Fatalf("Show of %v, %d, %v: %v, %v, not %d", x, i, high, m, e, n)
				}
			}
		}
		for range 50 {
			m := drawMixture(r, x)
			for i, y := range found {
				if !in(y, m[i]) && sieve.ProveMixture(x, m) {
					t.Fatalf("%v: %v, but %v is possible", x, found, m)
				}
			}
		}
	})
}

// P7.9
func TestOneMoreResult(t *testing.T) {
	narrower := 0
	consistent(t, 23, func(r *rand.Rand, x sieve.Lot, found []sieve.Range) {
		if len(x.Tests) == 0 {
			return
		}
		for len(x.Results) > 7 {
			x.Results = x.Results[1:]
			found, _ = rangesFound(t, x)
		}
		for range 5 {
			y := with(x, drawResult(r, x, drawMixture(r, x)))
			more, can := rangesFound(t, y)
			if !can {
				continue
			}
			for i := range found {
				if !inside(more[i], found[i]) {
					t.Fatalf("%v: %v; %v: %v", x, found, y, more)
				}
			}
			if !slices.Equal(more, found) {
				narrower++
			}
		}
	})
	if narrower < 200 {
		t.Errorf("only %d lots are narrower", narrower)
	}
}

// exactly adds what a set of tests keeps of a mixture.
func exactly(x sieve.Lot, set, mixture []int) sieve.Lot {
	for _, i := range set {
		n := keptOf(x.Tests[i], mixture)
		x = with(x, result(i, n, n))
	}
	return x
}

// drawPossible draws a possible mixture of a consistent lot.
func drawPossible(t *testing.T, r *rand.Rand, x sieve.Lot) []int {
	t.Helper()
	for range 20 {
		if m := drawMixture(r, x); sieve.ProveMixture(x, m) {
			return m
		}
	}
	m, e := sieve.Show(x, r.IntN(x.Things), r.IntN(2) == 0)
	if e != api.OK {
		t.Fatalf("Show of %v: %v, %v", x, m, e)
	}
	return m
}

// P7.10
func TestDecided(t *testing.T) {
	some, inside, outside := 0, 0, 0
	consistent(t, 24, func(r *rand.Rand, x sieve.Lot, _ []sieve.Range) {
		limits := drawLimits(r, x)
		set, e := sieve.Tests(x, limits)
		if e != api.OK || len(x.Results)+len(set) > 8 {
			return
		}
		if len(set) > 0 {
			some++
		}
		for range 5 {
			m := drawPossible(t, r, x)
			y := exactly(x, set, m)
			over, e := sieve.Over(y, limits)
			if e != api.OK || !sieve.ProveMixture(y, m) {
				t.Fatalf("Over of %v, %v: %v, %v", y, limits, over, e)
			}
			if within(m, limits) {
				inside++
			} else {
				outside++
			}
			// What is beyond no limit has no thing in Over; else nothing can be within all limits.
			if within(m, limits) != (len(over) == 0) {
				t.Fatalf("%v, %v: of %v the tests %v do not decide: %v", x, limits, m, set, over)
			}
			for range 30 {
				if other := drawMixture(r, y); sieve.ProveMixture(y, other) && within(other, limits) != within(m, limits) {
					t.Fatalf("%v, %v: the tests %v do not decide between %v and %v", x, limits, set, m, other)
				}
			}
			if !decides(t, y, limits, nil) {
				t.Fatalf("%v, %v: of %v the tests %v do not decide", x, limits, m, set)
			}
		}
	})
	if some < 30 || inside < 200 || outside < 200 {
		t.Errorf("%d lots need tests; %d mixtures are within the limits, %d are not", some, inside, outside)
	}
}

// P7.11, P5: any set is tried, and each test added to it.
func TestNoFewer(t *testing.T) {
	miss := 0
	var lengths [6]int
	consistent(t, 25, func(r *rand.Rand, x sieve.Lot, _ []sieve.Range) {
		limits := drawLimits(r, x)
		fewest, e := sieve.Tests(x, limits)
		if e != api.OK && (e != api.ErrMiss || len(fewest) > 0) {
			t.Fatalf("Tests of %v, %v: %v, %v", x, limits, fewest, e)
		}
		all := sets(len(x.Tests))
		first := slices.IndexFunc(all, func(set []int) bool { return decides(t, x, limits, set) })
		switch {
		case first < 0:
			miss++
			if e != api.ErrMiss {
				t.Fatalf("Tests of %v, %v: %v, %v", x, limits, fewest, e)
			}
			return
		case e != api.OK || !slices.Equal(all[first], fewest):
			t.Fatalf("Tests of %v, %v: %v, %v, but %v decides", x, limits, fewest, e, all[first])
		}
		lengths[len(fewest)]++
		for _, set := range all[first:] {
			if !decides(t, x, limits, set) {
				continue
			}
			for i := range x.Tests {
				more := slices.Compact(slices.Sorted(slices.Values(append(slices.Clone(set), i))))
				if !decides(t, x, limits, more) {
					t.Fatalf("%v, %v: %v decides, but %v does not", x, limits, set, more)
				}
			}
		}
	})
	if miss < 20 || lengths[0] < 50 || lengths[1] < 20 || lengths[2] < 5 {
		t.Errorf("so many fewest tests of each length: %v; none of %d", lengths, miss)
	}
}

// P7.12
func TestPairIsAlike(t *testing.T) {
	pairs := 0
	consistent(t, 26, func(r *rand.Rand, x sieve.Lot, _ []sieve.Range) {
		limits := drawLimits(r, x)
		for _, set := range sets(len(x.Tests)) {
			one, two, e := sieve.Pair(x, limits, set)
			if e == api.ErrNone {
				continue
			}
			pairs++
			if e != api.OK || !sieve.ProveMixture(x, one) || !sieve.ProveMixture(x, two) || !alike(x, set, one, two) || !within(one, limits) || within(two, limits) {
				t.Fatalf("Pair of %v, %v, %v: %v, %v, %v", x, limits, set, one, two, e)
			}
			// With the results of the first one, it is still the pair.
			y := exactly(x, set, one)
			if len(y.Results) > 8 {
				continue
			}
			if a, b, e := sieve.Pair(y, limits, set); !slices.Equal(a, one) || !slices.Equal(b, two) || e != api.OK {
				t.Fatalf("Pair of %v, %v, %v: %v, %v; with their results %v, %v, %v", x, limits, set, one, two, a, b, e)
			}
		}
	})
	if pairs < 300 {
		t.Errorf("only %d pairs", pairs)
	}
}

// P7.13, P6: any set is tried, by the package's own word for consistent.
func TestLeftOut(t *testing.T) {
	some := 0
	lots(27, func(_ *rand.Rand, x sieve.Lot) {
		set, e := sieve.Leave(x)
		if e != api.OK {
			t.Fatalf("Leave of %v: %v, %v", x, set, e)
		}
		if len(set) > 0 {
			some++
		}
		for _, other := range sets(len(x.Results)) {
			_, can := rangesFound(t, without(x, other))
			if slices.Equal(other, set) {
				if !can {
					t.Fatalf("%v: %v cannot be left out", x, set)
				}
				return
			}
			if can {
				t.Fatalf("Leave of %v: %v, but %v can be left out", x, set, other)
			}
		}
	})
	if some < 100 {
		t.Errorf("only %d have to leave results out", some)
	}
}

// P7.14
func TestRefused(t *testing.T) {
	none, some := 0, 0
	consistent(t, 28, func(r *rand.Rand, x sieve.Lot, found []sieve.Range) {
		for range 5 {
			limits := drawLimits(r, x)
			over, e := sieve.Over(x, limits)
			if e != api.OK {
				t.Fatalf("Over of %v, %v: %v, %v", x, limits, over, e)
			}
			for i, y := range found {
				if slices.Contains(over, i) != (y.Hi > limits[i]) {
					t.Fatalf("%v: %v; Over of %v: %v", x, found, limits, over)
				}
			}
			if len(over) > 0 {
				some++
				continue
			}
			none++
			if set, e := sieve.Tests(x, limits); !decides(t, x, limits, nil) || len(set) > 0 || e != api.OK {
				t.Fatalf("%v can be beyond none of %v; Tests: %v, %v", x, limits, set, e)
			}
		}
	})
	if none < 200 || some < 200 {
		t.Errorf("%d are beyond no limit, %d are", none, some)
	}
}

// moved numbers things in another order: the thing i becomes the thing order[i].
func moved[T any](l []T, order []int) []T {
	m := make([]T, len(l))
	for i, k := range order {
		m[k] = l[i]
	}
	return m
}

// P7.15
func TestOrderOfThings(t *testing.T) {
	lots(29, func(r *rand.Rand, x sieve.Lot) {
		order, limits, y := r.Perm(x.Things), drawLimits(r, x), clone(x)
		for i, test := range x.Tests {
			y.Tests[i] = moved(test, order)
		}
		found, can := rangesFound(t, x)
		again, still := rangesFound(t, y)
		if can != still || can && !slices.Equal(moved(found, order), again) {
			t.Fatalf("%v: %v; in the order %v: %v", x, found, order, again)
		}
		one, e := sieve.Tests(x, limits)
		two, f := sieve.Tests(y, moved(limits, order))
		if !slices.Equal(one, two) || e != f {
			t.Fatalf("Tests of %v, %v: %v, %v; in the order %v: %v, %v", x, limits, one, e, order, two, f)
		}
		set, e := sieve.Leave(x)
		other, f := sieve.Leave(y)
		if !slices.Equal(set, other) || e != f {
			t.Fatalf("Leave of %v: %v, %v; in the order %v: %v, %v", x, set, e, order, other, f)
		}
	})
}

// P7: results, and tests, lead to the same ranges and to the same smallest numbers in any order.
func TestOrderOfResultsAndTests(t *testing.T) {
	lots(30, func(r *rand.Rand, x sieve.Lot) {
		limits, y := drawLimits(r, x), clone(x)
		order := r.Perm(len(x.Tests))
		y.Tests, y.Results = moved(y.Tests, order), moved(y.Results, r.Perm(len(y.Results)))
		for i := range y.Results {
			y.Results[i].Test = order[y.Results[i].Test]
		}
		found, can := rangesFound(t, x)
		again, still := rangesFound(t, y)
		if can != still || !slices.Equal(found, again) {
			t.Fatalf("%v: %v; %v: %v", x, found, y, again)
		}
		one, e := sieve.Tests(x, limits)
		two, f := sieve.Tests(y, limits)
		if len(one) != len(two) || e != f {
			t.Fatalf("Tests of %v, %v: %v, %v; %v: %v, %v", x, limits, one, e, y, two, f)
		}
		set, _ := sieve.Leave(x)
		other, _ := sieve.Leave(y)
		if len(set) != len(other) {
			t.Fatalf("Leave of %v: %v; %v: %v", x, set, y, other)
		}
		for i := range x.Things {
			if !can {
				break
			}
			a, e := sieve.Show(x, i, true)
			b, f := sieve.Show(y, i, true)
			if !slices.Equal(a, b) || e != f {
				t.Fatalf("Show of %v, %d: %v, %v; %v: %v, %v", x, i, a, e, y, b, f)
			}
		}
	})
}

// P7.16
func TestAllKept(t *testing.T) {
	pairs := 0
	consistent(t, 31, func(r *rand.Rand, x sieve.Lot, found []sieve.Range) {
		limits, n := drawLimits(r, x), len(x.Tests)
		if n == 5 {
			return
		}
		y := clone(x)
		y.Tests = append(y.Tests, slices.Repeat(list(100), x.Things))
		for _, set := range sets(n) {
			one, two, e := sieve.Pair(x, limits, set)
			a, b, f := sieve.Pair(y, limits, append(slices.Clone(set), n))
			if !slices.Equal(one, a) || !slices.Equal(two, b) || e != f {
				t.Fatalf("Pair of %v, %v, %v: %v, %v, %v; with a test that keeps all: %v, %v, %v", x, limits, set, one, two, e, a, b, f)
			}
			if e == api.OK {
				pairs++
			}
		}
		one, e := sieve.Tests(x, limits)
		two, f := sieve.Tests(y, limits)
		if !slices.Equal(one, two) || e != f {
			t.Fatalf("Tests of %v, %v: %v, %v; with a test that keeps all: %v, %v", x, limits, one, e, two, f)
		}
		if len(y.Results) == 8 {
			return
		}
		if again, can := rangesFound(t, with(y, result(n, 100*x.Whole, 100*x.Whole))); !can || !slices.Equal(found, again) {
			t.Fatalf("%v: %v; with a test that keeps all: %v", x, found, again)
		}
		if x.Whole < 30 {
			if again, can := rangesFound(t, with(y, result(n, 100*x.Whole+1, 3000))); can {
				t.Fatalf("%v: %v, though more is kept than there is", x, again)
			}
		}
	})
	if pairs < 100 {
		t.Errorf("only %d pairs", pairs)
	}
}
