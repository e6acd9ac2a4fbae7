package sweep_test

import (
	"math/rand/v2"
	"reflect"
	"slices"
	"testing"

	"nochez/api"
	"nochez/sweep"
)

// shaped reports whether there is one element for each plot.
func shaped[T any](x sweep.Terrace, l [][]T) bool {
	return slices.EqualFunc(l, x.Parts, func(row []T, p sweep.Part) bool { return len(row) == p.Plots })
}

// terraces calls a function with terraces of all sizes, consistent or not.
func terraces(seed uint64, call func(r *rand.Rand, x sweep.Terrace)) {
	r := chance(seed)
	for _, z := range []size{small, middle, large} {
		for range 300 {
			call(r, draw(r, z))
		}
	}
}

// boundsOf has the bounds of a terrace, or its error.
type boundsOf struct {
	plots [][]sweep.Range
	whole sweep.Range
	e     api.Errno
}

// all returns what Plots and Whole return.
func all(t *testing.T, x sweep.Terrace) (b boundsOf) {
	t.Helper()
	plots, e := sweep.Plots(x)
	whole, f := sweep.Whole(x)
	if e != f || e == api.OK && !shaped(x, plots) || e != api.OK && e != api.ErrFail {
		t.Fatalf("%v: %v, %v; %v, %v", x, plots, e, whole, f)
	}
	return boundsOf{plots, whole, e}
}

// narrower reports whether no bounds are wider than others.
func narrower(inner, outer boundsOf) bool {
	for i, l := range inner.plots {
		for k, r := range l {
			if !inside(r, outer.plots[i][k]) {
				return false
			}
		}
	}
	return inside(inner.whole, outer.whole)
}

// consistent calls a function with consistent terraces of all sizes, and their bounds.
func consistent(t *testing.T, seed uint64, call func(r *rand.Rand, x sweep.Terrace, b boundsOf)) {
	t.Helper()
	some := 0
	terraces(seed, func(r *rand.Rand, x sweep.Terrace) {
		if b := all(t, x); b.e == api.OK {
			some++
			call(r, x, b)
		}
	})
	if some < 400 {
		t.Errorf("only %d terraces are consistent", some)
	}
}

// P5.7, P2: whatever truth is drawn, it is within all bounds if samples and what was weighed agree with it.
func TestWhateverWasSwept(t *testing.T) {
	terraces(21, func(r *rand.Rand, x sweep.Terrace) {
		truth := drawTruth(r, x.Parts)
		x.Samples = slices.DeleteFunc(x.Samples, func(y sweep.Sample) bool { return !in(y.Swept, truth[y.Part][y.Plot]) })
		for len(x.Samples) < 8 && r.IntN(3) > 0 {
			x.Samples = append(x.Samples, drawSample(r, truth, 30))
		}
		if !in(x.Weighed, sum(truth)) || r.IntN(2) == 0 {
			x.Weighed = around(r, sum(truth), 24000, 100)
		}
		b := all(t, x)
		if b.e != api.OK || !sweep.ProveTruth(x, truth) || !in(b.whole, sum(truth)) {
			t.Fatalf("%v: %v is not within %v", x, truth, b)
		}
		eachPlot(x, func(part, plot int) {
			if !in(b.plots[part][plot], truth[part][plot]) {
				t.Fatalf("%v: %v is not within %v", x, truth, b)
			}
		})
		if set, e := sweep.Leave(x); len(set) > 0 || e != api.OK {
			t.Fatalf("Leave of %v: %v, %v", x, set, e)
		}
	})
}

// shows reports an error unless Show shows truths with these ends of the whole.
func shows(t *testing.T, x sweep.Terrace, low, high int) {
	t.Helper()
	few, e := sweep.Show(x, false)
	many, f := sweep.Show(x, true)
	if e != api.OK || f != api.OK || !isTruth(x, few) || !isTruth(x, many) || sum(few) != low || sum(many) != high {
		t.Fatalf("Show of %v: %v, %v; %v, %v, not %d, %d", x, few, e, many, f, low, high)
	}
}

// P5.8, P5.3: with just one number of a plot, or of the whole, there is a truth if and only if it is within the bounds.
func TestEachNumberWithin(t *testing.T) {
	consistent(t, 22, func(r *rand.Rand, x sweep.Terrace, b boundsOf) {
		shows(t, x, b.whole.Lo, b.whole.Hi)
		for _, n := range list(b.whole.Lo, b.whole.Hi, between(r, b.whole.Lo, b.whole.Hi)) {
			shows(t, weighed(x, n, n), n, n)
		}
		for _, n := range list(b.whole.Lo-1, b.whole.Hi+1) {
			if in(x.Weighed, n) && all(t, weighed(x, n, n)).e != api.ErrFail {
				t.Fatalf("%v: %v, but the whole can be %d", x, b, n)
			}
		}
		if len(x.Samples) == 8 {
			x.Samples = x.Samples[1:]
			b = all(t, x)
		}
		eachPlot(x, func(part, plot int) {
			r1 := b.plots[part][plot]
			for _, n := range list(r1.Lo, r1.Hi, between(r, r1.Lo, r1.Hi)) {
				one := with(x, sample(part, plot, n, n))
				if truth, e := sweep.Show(one, r.IntN(2) == 0); e != api.OK || !isTruth(one, truth) {
					t.Fatalf("Show of %v: %v, %v", one, truth, e)
				}
			}
			for _, n := range list(r1.Lo-1, r1.Hi+1) {
				if n >= 0 && n <= 1000 && all(t, with(x, sample(part, plot, n, n))).e != api.ErrFail {
					t.Fatalf("%v: %v, but plot %d of part %d can be %d", x, b, plot, part, n)
				}
			}
		})
	})
}

// P5.9
func TestOneMoreSample(t *testing.T) {
	reached := 0
	consistent(t, 23, func(r *rand.Rand, x sweep.Terrace, b boundsOf) {
		if len(x.Samples) == 8 {
			x.Samples = x.Samples[1:]
			b = all(t, x)
		}
		if c := all(t, with(x, drawSample(r, drawTruth(r, x.Parts), 20))); c.e == api.OK && !narrower(c, b) {
			t.Fatalf("%v: %v, with one more sample %v", x, b, c)
		}
		part := r.IntN(len(x.Parts))
		plot, err := r.IntN(x.Parts[part].Plots), []int{0, r.IntN(20), r.IntN(101)}[r.IntN(3)]
		number, wide, e := sweep.Worst(x, part, plot, err)
		if e != api.OK || !in(b.plots[part][plot], number) {
			t.Fatalf("Worst of %v, %d, %d, %d: %d, %d, %v", x, part, plot, err, number, wide, e)
		}
		for _, n := range list(b.plots[part][plot].Lo, b.plots[part][plot].Hi, number-1, number+1, between(r, b.plots[part][plot].Lo, b.plots[part][plot].Hi)) {
			if !in(b.plots[part][plot], n) {
				continue
			}
			c := all(t, with(x, more(part, plot, n, err)))
			if c.e != api.OK || !narrower(c, b) || width(c.whole) > wide || n < number && width(c.whole) == wide {
				t.Fatalf("%v: %v; Worst of %d, %d, %d is %d, %d; with the number %d: %v", x, b, part, plot, err, number, wide, n, c)
			}
		}
		if c := all(t, with(x, more(part, plot, number, err))); c.e != api.OK || width(c.whole) != wide {
			t.Fatalf("%v: Worst of %d, %d, %d is %d, %d, but then: %v", x, part, plot, err, number, wide, c)
		}
		if wide < width(b.whole) {
			reached++
		}
	})
	if reached < 100 {
		t.Errorf("only %d samples help", reached)
	}
}

// P5.10, P6: any set is tried, by the package's own word for consistent.
func TestLeftOut(t *testing.T) {
	some, fail := 0, 0
	terraces(24, func(_ *rand.Rand, x sweep.Terrace) {
		set, e := sweep.Leave(x)
		if e != api.OK {
			fail++
			if bare := without(x, list(0, 1, 2, 3, 4, 5, 6, 7)); e != api.ErrFail || len(set) > 0 || all(t, bare).e != api.ErrFail {
				t.Fatalf("Leave of %v: %v, %v", x, set, e)
			}
			return
		}
		if (len(set) == 0) != (all(t, x).e == api.OK) {
			t.Fatalf("Leave of %v: %v, but Plots has %v", x, set, all(t, x).e)
		}
		if len(set) > 0 {
			some++
		}
		for _, other := range sets(len(x.Samples)) {
			can := all(t, without(x, other)).e == api.OK
			if slices.Equal(other, set) {
				if !can {
					t.Fatalf("%v: %v cannot be left out", x, set)
				}
				return
			}
			if can {
				t.Fatalf("Leave of %v: %v, but %v can be left out", x, set, other)
			}
		}
	})
	if some < 100 || fail < 20 {
		t.Errorf("%d have to leave samples out, %d fail", some, fail)
	}
}

// P5.11
func TestNoBetterPlot(t *testing.T) {
	consistent(t, 25, func(r *rand.Rand, x sweep.Terrace, b boundsOf) {
		err := []int{0, r.IntN(20), r.IntN(101)}[r.IntN(3)]
		part, plot, wide := least(x, func(part, plot int) int {
			_, w, e := sweep.Worst(x, part, plot, err)
			if e != api.OK || w > width(b.whole) || w < 0 {
				t.Fatalf("Worst of %v, %d, %d, %d: %d, %v, but the whole is %v", x, part, plot, err, w, e, b.whole)
			}
			return w
		})
		if p, k, w, e := sweep.Best(x, err); p != part || k != plot || w != wide || e != api.OK {
			t.Fatalf("Best of %v, %d: %d, %d, %d, %v, not %d, %d, %d", x, err, p, k, w, e, part, plot, wide)
		}
	})
}

// within draws a range within another one.
func within(r *rand.Rand, outer sweep.Range) sweep.Range {
	low := between(r, outer.Lo, outer.Hi)
	return to(low, between(r, low, outer.Hi))
}

// P5.12
func TestNarrower(t *testing.T) {
	again := 0
	consistent(t, 26, func(r *rand.Rand, x sweep.Terrace, b boundsOf) {
		for range 8 {
			y := clone(x)
			i := r.IntN(len(y.Parts))
			switch p := &y.Parts[i]; r.IntN(4) {
			case 0:
				p.Each = within(r, p.Each)
			case 1:
				y.Weighed = within(r, to(max(y.Weighed.Lo, b.whole.Lo-3), min(y.Weighed.Hi, b.whole.Hi+3)))
			case 2:
				p.Differ = between(r, 1, p.Differ)
			case 3:
				if k := len(y.Samples); k > 0 {
					k = r.IntN(k)
					y.Samples[k].Swept = within(r, y.Samples[k].Swept)
				}
			}
			if c := all(t, y); c.e == api.OK {
				again++
				if !narrower(c, b) {
					t.Fatalf("%v: %v; %v: %v", x, b, y, c)
				}
			}
		}
	})
	if again < 1000 {
		t.Errorf("only %d are consistent", again)
	}
}

// P5.13
func TestGreaterError(t *testing.T) {
	consistent(t, 27, func(r *rand.Rand, x sweep.Terrace, _ boundsOf) {
		part := r.IntN(len(x.Parts))
		plot, before := r.IntN(x.Parts[part].Plots), 0
		for _, err := range list(0, 1, between(r, 2, 20), between(r, 20, 100), 100) {
			_, wide, e := sweep.Worst(x, part, plot, err)
			if e != api.OK || wide < before {
				t.Fatalf("Worst of %v, %d, %d, %d: %d, %v, with a smaller error %d", x, part, plot, err, wide, e, before)
			}
			before = wide
		}
	})
}

// P5.14
func TestEachForItself(t *testing.T) {
	terraces(28, func(r *rand.Rand, x sweep.Terrace) {
		b := all(t, weighed(x, 0, 24000))
		if b.e != api.OK {
			return
		}
		sums := to(0, 0)
		for _, l := range b.plots {
			for _, r := range l {
				sums = to(sums.Lo+r.Lo, sums.Hi+r.Hi)
			}
		}
		if b.whole != sums {
			t.Fatalf("%v: %v, which sums up to %v", x, b, sums)
		}
		if c := all(t, weighed(x, between(r, 0, sums.Lo), between(r, sums.Hi, 24000))); !reflect.DeepEqual(b, c) {
			t.Fatalf("%v: %v; with what excludes nothing %v", x, b, c)
		}
	})
}

// moved lists the parts, and the samples, of a terrace in another order.
func moved(r *rand.Rand, x sweep.Terrace) (y sweep.Terrace, parts, samples []int) {
	parts, samples = r.Perm(len(x.Parts)), r.Perm(len(x.Samples))
	y = sweep.Terrace{Parts: make([]sweep.Part, len(parts)), Samples: make([]sweep.Sample, len(samples)), Weighed: x.Weighed}
	for i, k := range parts {
		y.Parts[k] = x.Parts[i]
	}
	for i, k := range samples {
		y.Samples[k] = x.Samples[i]
		y.Samples[k].Part = parts[x.Samples[i].Part]
	}
	return y, parts, samples
}

// P5.15, P7
func TestAnyOrder(t *testing.T) {
	terraces(29, func(r *rand.Rand, x sweep.Terrace) {
		y, parts, _ := moved(r, x)
		b, c := all(t, x), all(t, y)
		if b.e != c.e || b.whole != c.whole {
			t.Fatalf("%v: %v; in another order %v: %v", x, b, y, c)
		}
		one, e := sweep.Leave(x)
		two, f := sweep.Leave(y)
		if len(one) != len(two) || e != f {
			t.Fatalf("Leave of %v: %v, %v; in another order %v: %v, %v", x, one, e, y, two, f)
		}
		for i, k := range parts {
			if b.e == api.OK && !slices.Equal(b.plots[i], c.plots[k]) {
				t.Fatalf("%v: %v; in another order %v: %v", x, b, y, c)
			}
		}
		_, _, wide, e := sweep.Best(x, 5)
		_, _, other, f := sweep.Best(y, 5)
		if wide != other || e != f {
			t.Fatalf("Best of %v: %d, %v; in another order %v: %d, %v", x, wide, e, y, other, f)
		}
	})
}
