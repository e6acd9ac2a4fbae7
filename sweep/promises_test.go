package sweep_test

import (
	"math"
	"math/rand/v2"
	"reflect"
	"slices"
	"testing"

	"nochez/api"
	"nochez/sweep"
)

// P5.1
func TestProveTruth(t *testing.T) {
	for _, y := range []struct {
		name  string
		x     sweep.Terrace
		truth [][]int
		want  bool
	}{
		{"a truth", two(), lists(list(4, 7), list(20)), true},
		{"all at the high end", two(), lists(list(9, 9), list(40)), true},
		{"below Each", two(), lists(list(3, 4), list(20)), false},
		{"above Each", two(), lists(list(9, 10), list(20)), false},
		{"below Each in the second part", two(), lists(list(4, 4), list(19)), false},
		{"above Each in the second part", two(), lists(list(4, 4), list(41)), false},
		{"just Differ", two(), lists(list(9, 6), list(20)), true},
		{"more than Differ", two(), lists(list(9, 5), list(20)), false},
		{"more than Differ, the other way", two(), lists(list(5, 9), list(20)), false},
		{"no parts", two(), nil, false},
		{"too few parts", two(), lists(list(4, 4)), false},
		{"too many parts", two(), lists(list(4, 4), list(20), list(20)), false},
		{"one part more, without plots", two(), lists(list(4, 4), list(20), nil), false},
		{"too few plots", two(), lists(list(4), list(20)), false},
		{"too many plots", two(), lists(list(4, 4, 4), list(20)), false},
		{"no plots", two(), lists(list(4, 4), nil), false},
		{"plots of another part", two(), lists(list(4), list(4, 20)), false},
		{"the sum is the least that was weighed", weighed(two(), 31, 40), lists(list(4, 7), list(20)), true},
		{"less than was weighed", weighed(two(), 32, 40), lists(list(4, 7), list(20)), false},
		{"the sum is the most that was weighed", weighed(two(), 0, 31), lists(list(4, 7), list(20)), true},
		{"more than was weighed", weighed(two(), 0, 30), lists(list(4, 7), list(20)), false},
		{"a sample", two(sample(0, 1, 7, 9)), lists(list(4, 7), list(20)), true},
		{"a sample above it", two(sample(0, 1, 8, 9)), lists(list(4, 7), list(20)), false},
		{"a sample below it", two(sample(0, 1, 0, 6)), lists(list(4, 7), list(20)), false},
		{"a sample of the second part", two(sample(1, 0, 0, 19)), lists(list(4, 7), list(20)), false},
		{"two samples", two(sample(0, 1, 7, 9), sample(0, 1, 6, 7)), lists(list(4, 7), list(20)), true},
		{"the last of three samples", two(sample(0, 1, 7, 9), sample(1, 0, 20, 20), sample(0, 0, 5, 5)), lists(list(4, 7), list(20)), false},
		{"the first of three samples", two(sample(0, 0, 5, 5), sample(1, 0, 20, 20), sample(0, 1, 7, 9)), lists(list(4, 7), list(20)), false},
		{"numbers whose difference and sum are small if they overflow", two(), lists(list(math.MinInt, math.MaxInt), list(20)), false},
		{"the greatest numbers", two(), lists(list(math.MaxInt, math.MaxInt), list(math.MaxInt)), false},
		{"the third plot", three(), lists(list(10, 15, 20)), true},
		{"the third plot differs too much", three(), lists(list(10, 15, 21)), false},
		{"a number of 1000", sweep.Terrace{Parts: []sweep.Part{part(2, 0, 1000, 1000)}, Weighed: to(1000, 1000)}, lists(list(0, 1000)), true},
		{"a terrace that is not valid", sweep.Terrace{}, nil, false},
	} {
		if sweep.ProveTruth(y.x, y.truth) != y.want {
			t.Errorf("%s: ProveTruth of %v, %v: not %v", y.name, y.x, y.truth, y.want)
		}
	}
}

// tries calls a function with terraces that have few truths, and with all of them.
func tries(seed uint64, call func(r *rand.Rand, x sweep.Terrace, all [][][]int)) {
	r := chance(seed)
	for range 3000 {
		x := draw(r, small)
		call(r, x, truths(x))
	}
}

// P5.1: ProveTruth holds for just the truths of the reference.
func TestProveTruthByAllNumbers(t *testing.T) {
	yes, no := 0, 0
	tries(11, func(r *rand.Rand, x sweep.Terrace, _ [][][]int) {
		numbers(x, func(truth [][]int) {
			i := r.IntN(len(truth))
			k, more := r.IntN(len(truth[i])), 0
			if r.IntN(5) == 0 {
				more = between(r, -2, 2)
			}
			truth[i][k] += more
			want := isTruth(x, truth)
			if sweep.ProveTruth(x, truth) != want {
				t.Fatalf("ProveTruth of %v, %v: not %v", x, truth, want)
			}
			truth[i][k] -= more
			if want {
				yes++
			} else {
				no++
			}
		})
	})
	if yes < 1000 || no < 1000 {
		t.Errorf("%d truths, and %d others", yes, no)
	}
}

// P5.2, P5.3, P5.7, P5.8: the bounds are those of all truths, each number within them occurs, and what is shown is a truth.
func TestPlotsWholeAndShowByAllTruths(t *testing.T) {
	some, none := 0, 0
	tries(12, func(_ *rand.Rand, x sweep.Terrace, all [][][]int) {
		plots, e1 := sweep.Plots(x)
		whole, e2 := sweep.Whole(x)
		low, e3 := sweep.Show(x, false)
		high, e4 := sweep.Show(x, true)
		if len(all) == 0 {
			none++
			if e1 != api.ErrFail || e2 != api.ErrFail || e3 != api.ErrFail || e4 != api.ErrFail {
				t.Fatalf("%v: %v, %v, %v, %v", x, e1, e2, e3, e4)
			}
			return
		}
		some++
		if want := plotsOf(x, all); !reflect.DeepEqual(plots, want) || e1 != api.OK {
			t.Fatalf("Plots of %v: %v, %v, not %v", x, plots, e1, want)
		}
		want := bounds(all, sum)
		if whole != want || e2 != api.OK {
			t.Fatalf("Whole of %v: %v, %v, not %v", x, whole, e2, want)
		}
		if e3 != api.OK || e4 != api.OK || !isTruth(x, low) || !isTruth(x, high) || sum(low) != want.Lo || sum(high) != want.Hi {
			t.Fatalf("Show of %v: %v, %v; %v, %v, not %v", x, low, e3, high, e4, want)
		}
	})
	if some < 1000 || none < 500 {
		t.Errorf("%d terraces are consistent, %d are not", some, none)
	}
}

// P5.2, by hand: what bounds one plot bounds others through Differ, and through what was weighed.
func TestPlotsAndWhole(t *testing.T) {
	for _, y := range []struct {
		name  string
		x     sweep.Terrace
		plots [][]sweep.Range
		whole sweep.Range
	}{
		{"no samples", three(), rows(row(to(10, 30), to(10, 30), to(10, 30))), to(30, 90)},
		{"Each alone", two(), rows(row(to(4, 9), to(4, 9)), row(to(20, 40))), to(28, 58)},
		{"a sample wider than Each", three(sample(0, 1, 0, 1000)), rows(row(to(10, 30), to(10, 30), to(10, 30))), to(30, 90)},
		{"a plot with a low sample", three(sample(0, 0, 10, 12)), rows(row(to(10, 12), to(10, 22), to(10, 22))), to(30, 56)},
		{"two samples of a plot", three(first(), sample(0, 0, 27, 30)), rows(row(to(27, 28), to(17, 30), to(17, 30))), to(61, 88)},
		{"a sample bounds only its own part", two(sample(0, 0, 4, 4)), rows(row(to(4, 4), to(4, 7)), row(to(20, 40))), to(28, 51)},
		{"a sample of the second part", two(sample(1, 0, 30, 50)), rows(row(to(4, 9), to(4, 9)), row(to(30, 40))), to(38, 58)},
		{"little was weighed", weighed(two(), 0, 30), rows(row(to(4, 6), to(4, 6)), row(to(20, 22))), to(28, 30)},
		{"much was weighed", weighed(two(), 55, 100), rows(row(to(6, 9), to(6, 9)), row(to(37, 40))), to(55, 58)},
		{"what was weighed is known, so that Differ counts", weighed(two(), 57, 58), rows(row(to(8, 9), to(8, 9)), row(to(39, 40))), to(57, 58)},
		{"one whole", weighed(three(), 61, 61), rows(row(to(14, 27), to(14, 27), to(14, 27))), to(61, 61)},
		{"one whole, with a sample", weighed(three(first()), 56, 56), rows(row(to(25, 25), to(15, 16), to(15, 16))), to(56, 56)},
		{"more was weighed at least than there is at least", weighed(three(), 31, 40), rows(row(to(10, 20), to(10, 20), to(10, 20))), to(31, 40)},
		{"Differ as large as Each", sweep.Terrace{Parts: []sweep.Part{part(2, 0, 1000, 1000)}, Weighed: to(0, 1500)}, rows(row(to(0, 1000), to(0, 1000))), to(0, 1500)},
		{"Each is one number", sweep.Terrace{Parts: []sweep.Part{part(6, 7, 7, 1)}, Weighed: to(42, 42)}, rows(row(to(7, 7), to(7, 7), to(7, 7), to(7, 7), to(7, 7), to(7, 7))), to(42, 42)},
		{"nothing at all", sweep.Terrace{Parts: []sweep.Part{part(1, 0, 0, 1)}}, rows(row(to(0, 0))), to(0, 0)},
	} {
		t.Run(y.name, func(t *testing.T) { known(t, y.x, y.plots, y.whole) })
	}
}

// P5.4, P5.10, P6: any set is tried.
func TestLeaveByAllTruths(t *testing.T) {
	var lengths [5]int
	fail := 0
	tries(13, func(_ *rand.Rand, x sweep.Terrace, _ [][][]int) {
		bare := x
		bare.Samples = nil
		all := truths(bare)
		set, e := sweep.Leave(x)
		if len(all) == 0 {
			fail++
			if e != api.ErrFail || len(set) != 0 {
				t.Fatalf("Leave of %v: %v, %v", x, set, e)
			}
			return
		}
		for _, want := range sets(len(x.Samples)) {
			kept := without(x, want).Samples
			if slices.ContainsFunc(all, func(truth [][]int) bool { return agrees(truth, kept) }) {
				lengths[len(want)]++
				if !slices.Equal(set, want) || e != api.OK {
					t.Fatalf("Leave of %v: %v, %v, not %v", x, set, e, want)
				}
				return
			}
		}
	})
	if lengths[0] < 1000 || lengths[1] < 300 || lengths[2] < 50 || fail < 100 {
		t.Errorf("so many sets of each length: %v; %d fail", lengths, fail)
	}
}

func TestLeave(t *testing.T) {
	low, high, none := sample(0, 0, 10, 12), sample(0, 0, 18, 20), sample(0, 1, 31, 40)
	for _, y := range []struct {
		name string
		x    sweep.Terrace
		want []int
	}{
		{"no samples", three(), nil},
		{"samples that agree", three(low, low), nil},
		{"the first of two", three(low, high), list(0)},
		{"the one against two", three(low, high, low), list(1)},
		{"the last one", three(low, low, high), list(2)},
		{"one by itself", three(low, none, low), list(1)},
		{"one by itself, and one of two", three(none, low, high), list(0, 1)},
		{"the first two of four", three(low, high, low, high), list(0, 2)},
		{"the last two of four", three(low, low, none, none), list(2, 3)},
		{"all", three(none, none, none), list(0, 1, 2)},
		{"all of eight", three(none, none, none, none, none, none, none, none), list(0, 1, 2, 3, 4, 5, 6, 7)},
		{"plots that differ too much", three(high, sample(0, 1, 29, 30), low), list(2)},
		{"of two parts", two(sample(0, 0, 4, 4), sample(1, 0, 41, 50), sample(0, 1, 8, 8), sample(1, 0, 20, 25)), list(0, 1)},
		{"by what was weighed", weighed(two(sample(0, 0, 4, 5), sample(1, 0, 38, 40), sample(0, 1, 4, 5)), 28, 45), list(1)},
		{"by what was weighed, the first", weighed(two(sample(1, 0, 38, 40), sample(0, 0, 6, 7)), 28, 45), list(0)},
		{"not one, but two with what was weighed", weighed(three(sample(0, 0, 20, 30), sample(0, 1, 20, 30), sample(0, 2, 20, 30)), 30, 40), list(0, 1)},
	} {
		if set, e := sweep.Leave(y.x); !slices.Equal(set, y.want) || e != api.OK {
			t.Errorf("%s: %v, %v, not %v", y.name, set, e, y.want)
		}
	}
}

// P5.5, P5.6: all numbers of all plots are tried.
func TestWorstAndBestByAllTruths(t *testing.T) {
	worse, later := 0, 0
	tries(14, func(r *rand.Rand, x sweep.Terrace, all [][][]int) {
		for _, err := range list(0, 1, r.IntN(5), 100) {
			p, k, w, e := sweep.Best(x, err)
			if len(all) == 0 {
				if p != 0 || k != 0 || w != 0 || e != api.ErrFail {
					t.Fatalf("Best of %v, %d: %d, %d, %d, %v", x, err, p, k, w, e)
				}
				continue
			}
			part, plot, wide := least(x, func(part, plot int) int { _, w := worstOf(all, part, plot, err); return w })
			if p != part || k != plot || w != wide || e != api.OK {
				t.Fatalf("Best of %v, %d: %d, %d, %d, %v, not %d, %d, %d", x, err, p, k, w, e, part, plot, wide)
			}
			if part > 0 || plot > 0 {
				later++
			}
			eachPlot(x, func(part, plot int) {
				number, wide := worstOf(all, part, plot, err)
				n, w, e := sweep.Worst(x, part, plot, err)
				if n != number || w != wide || e != api.OK {
					t.Fatalf("Worst of %v, %d, %d, %d: %d, %d, %v, not %d, %d", x, part, plot, err, n, w, e, number, wide)
				}
				if number > bounds(all, func(truth [][]int) int { return truth[part][plot] }).Lo {
					worse++
				}
			})
		}
	})
	if worse < 1000 || later < 300 {
		t.Errorf("only %d worst numbers are not the smallest one, and %d best plots not the first one", worse, later)
	}
}

func TestWorst(t *testing.T) {
	for _, y := range []struct {
		name            string
		x               sweep.Terrace
		part, plot, err int
		number, wide    int
	}{
		{"in the middle", three(), 0, 0, 0, 20, 40},
		{"an error", three(), 0, 0, 4, 16, 48},
		{"a greater error", three(), 0, 0, 8, 18, 56},
		{"the greatest error", three(), 0, 0, 100, 10, 60},
		{"a plot that is alone", two(), 1, 0, 0, 20, 10},
		{"a plot that is alone, with an error", two(), 1, 0, 2, 22, 14},
		{"not in the other part", two(), 0, 1, 0, 6, 25},
		{"at the end of Each", two(sample(0, 1, 9, 9)), 0, 0, 1, 7, 22},
		{"a known plot", two(sample(1, 0, 30, 30)), 1, 0, 0, 30, 10},
		{"what was weighed hides it", weighed(two(), 40, 40), 1, 0, 0, 22, 0},
		{"what was weighed bounds its numbers", weighed(two(), 57, 100), 1, 0, 0, 40, 1},
		{"what was weighed bounds the whole", weighed(three(), 55, 65), 0, 0, 0, 15, 10},
		{"all that was weighed", weighed(three(), 40, 80), 0, 2, 0, 20, 40},
	} {
		if n, w, e := sweep.Worst(y.x, y.part, y.plot, y.err); n != y.number || w != y.wide || e != api.OK {
			t.Errorf("%s: Worst of %v, %d, %d, %d: %d, %d, %v, not %d, %d", y.name, y.x, y.part, y.plot, y.err, n, w, e, y.number, y.wide)
		}
	}
}

func TestBest(t *testing.T) {
	wider := two()
	wider.Parts = []sweep.Part{part(1, 20, 40, 5), part(1, 20, 41, 5), part(1, 20, 41, 5)}
	for _, y := range []struct {
		name       string
		x          sweep.Terrace
		err        int
		part, plot int
		wide       int
	}{
		{"the first of equal plots", three(), 0, 0, 0, 40},
		{"the second plot", three(first()), 0, 0, 1, 18},
		{"the third plot", three(first(), second()), 0, 0, 2, 6},
		{"the second part", two(), 0, 1, 0, 10},
		{"the greatest error, so that none helps", two(), 100, 0, 0, 30},
		{"the widest part, the first of two", wider, 0, 1, 0, 41},
		{"all is known", two(sample(0, 0, 5, 5), sample(0, 1, 6, 6), sample(1, 0, 20, 20)), 0, 0, 0, 0},
	} {
		if p, k, w, e := sweep.Best(y.x, y.err); p != y.part || k != y.plot || w != y.wide || e != api.OK {
			t.Errorf("%s: Best of %v, %d: %d, %d, %d, %v, not %d, %d, %d", y.name, y.x, y.err, p, k, w, e, y.part, y.plot, y.wide)
		}
	}
}

// Terraces that have too many truths, by the second reference.
func TestByTheSmallestNumbers(t *testing.T) {
	r, some, none := chance(15), 0, 0
	check := func(x sweep.Terrace) {
		want, can := wholeOf(x)
		whole, e := sweep.Whole(x)
		if !can {
			none++
			if e != api.ErrFail {
				t.Fatalf("Whole of %v: %v, %v", x, whole, e)
			}
			return
		}
		some++
		if whole != want || e != api.OK {
			t.Fatalf("Whole of %v: %v, %v, not %v", x, whole, e, want)
		}
		plots, e := sweep.Plots(x)
		if e != api.OK || !shaped(x, plots) {
			t.Fatalf("Plots of %v: %v, %v", x, plots, e)
		}
		eachPlot(x, func(part, plot int) {
			l := numbersOf(x, part, plot)
			if b := plots[part][plot]; b != to(l[0], l[len(l)-1]) || width(b)+1 != len(l) {
				t.Fatalf("Plots of %v: %v, but plot %d of part %d is one of %v", x, plots, plot, part, l)
			}
		})
		for _, most := range []bool{false, true} {
			truth, e := sweep.Show(x, most)
			n := want.Lo
			if most {
				n = want.Hi
			}
			if e != api.OK || !isTruth(x, truth) || sum(truth) != n {
				t.Fatalf("Show of %v: %v, %v, not %d", x, truth, e, n)
			}
		}
	}
	for range 300 {
		check(draw(r, middle))
	}
	for range 16 {
		check(draw(r, large))
	}
	if some < 150 || none < 50 {
		t.Errorf("%d terraces are consistent, %d are not", some, none)
	}
}

// P5.5, P5.6 of terraces that have too many truths.
func TestWorstAndBestByTheSmallestNumbers(t *testing.T) {
	r, some := chance(16), 0
	for range 100 {
		x, err := draw(r, middle), []int{0, r.IntN(6), r.IntN(101)}[r.IntN(3)]
		if _, can := wholeOf(x); !can {
			continue
		}
		some++
		worst := func(part, plot int) int {
			number, wide := 0, -1
			for _, n := range numbersOf(x, part, plot) {
				if whole, _ := wholeOf(with(x, more(part, plot, n, err))); width(whole) > wide {
					number, wide = n, width(whole)
				}
			}
			if n, w, e := sweep.Worst(x, part, plot, err); n != number || w != wide || e != api.OK {
				t.Fatalf("Worst of %v, %d, %d, %d: %d, %d, %v, not %d, %d", x, part, plot, err, n, w, e, number, wide)
			}
			return wide
		}
		part, plot, wide := least(x, worst)
		if p, k, w, e := sweep.Best(x, err); p != part || k != plot || w != wide || e != api.OK {
			t.Fatalf("Best of %v, %d: %d, %d, %d, %v, not %d, %d, %d", x, err, p, k, w, e, part, plot, wide)
		}
	}
	if some < 50 {
		t.Errorf("only %d terraces are consistent", some)
	}
}
