package sweep_test

import (
	"math/rand/v2"
	"slices"

	"nochez/api"
	"nochez/sweep"
)

// The references go by the words of the definitions, and call nothing of the package. The first one tries all truths; the second one, for terraces with too many truths, goes through the smallest numbers that each part can have.

func to(low, high int) sweep.Range { return sweep.Range{Lo: low, Hi: high} }

func list(l ...int) []int { return l }

func lists(l ...[]int) [][]int { return l }

func row(l ...sweep.Range) []sweep.Range { return l }

func rows(l ...[]sweep.Range) [][]sweep.Range { return l }

func in(r sweep.Range, n int) bool { return r.Lo <= n && n <= r.Hi }

func inside(inner, outer sweep.Range) bool { return in(outer, inner.Lo) && in(outer, inner.Hi) }

func width(r sweep.Range) int { return r.Hi - r.Lo }

func sample(part, plot, low, high int) sweep.Sample {
	return sweep.Sample{Part: part, Plot: plot, Swept: to(low, high)}
}

func part(plots, low, high, differ int) sweep.Part {
	return sweep.Part{Plots: plots, Each: to(low, high), Differ: differ}
}

// three is the terrace of the chapter's examples, with samples.
func three(samples ...sweep.Sample) sweep.Terrace {
	return sweep.Terrace{Parts: []sweep.Part{part(3, 10, 30, 10)}, Samples: samples, Weighed: to(0, 200)}
}

// The samples of the chapter's examples.
func first() sweep.Sample  { return sample(0, 0, 25, 28) }
func second() sweep.Sample { return sample(0, 1, 15, 18) }
func third() sweep.Sample  { return sample(0, 2, 5, 14) }

// two has a part with two plots, and one with one plot.
func two(samples ...sweep.Sample) sweep.Terrace {
	return sweep.Terrace{Parts: []sweep.Part{part(2, 4, 9, 3), part(1, 20, 40, 5)}, Samples: samples, Weighed: to(0, 24000)}
}

func weighed(t sweep.Terrace, low, high int) sweep.Terrace {
	t.Weighed = to(low, high)
	return t
}

// with adds samples to a terrace.
func with(t sweep.Terrace, samples ...sweep.Sample) sweep.Terrace {
	t.Samples = slices.Concat(t.Samples, samples)
	return t
}

// clone copies a terrace, so that it can be changed.
func clone(t sweep.Terrace) sweep.Terrace {
	t.Parts, t.Samples = slices.Clone(t.Parts), slices.Clone(t.Samples)
	return t
}

func sum(l [][]int) (n int) {
	for _, r := range l {
		for _, x := range r {
			n += x
		}
	}
	return n
}

// agrees reports whether each sampled plot has a number that its sample allows.
func agrees(truth [][]int, samples []sweep.Sample) bool {
	for _, x := range samples {
		if !in(x.Swept, truth[x.Part][x.Plot]) {
			return false
		}
	}
	return true
}

// isTruth reports whether lists are a truth of a valid terrace, by comparing each two plots.
func isTruth(t sweep.Terrace, truth [][]int) bool {
	if len(truth) != len(t.Parts) {
		return false
	}
	for i, p := range t.Parts {
		if len(truth[i]) != p.Plots {
			return false
		}
		for _, a := range truth[i] {
			for _, b := range truth[i] {
				if !in(p.Each, a) || a-b > p.Differ {
					return false
				}
			}
		}
	}
	return agrees(truth, t.Samples) && in(t.Weighed, sum(truth))
}

// numbers calls a function with all lists of numbers in Each of their parts; the lists are changed afterwards.
func numbers(t sweep.Terrace, call func([][]int)) {
	truth := make([][]int, len(t.Parts))
	for i, p := range t.Parts {
		truth[i] = make([]int, p.Plots)
	}
	var choose func(part, plot int)
	choose = func(part, plot int) {
		if part == len(t.Parts) {
			call(truth)
			return
		}
		if plot == t.Parts[part].Plots {
			choose(part+1, 0)
			return
		}
		for n := t.Parts[part].Each.Lo; n <= t.Parts[part].Each.Hi; n++ {
			truth[part][plot] = n
			choose(part, plot+1)
		}
	}
	choose(0, 0)
}

// truths has all truths of a terrace.
func truths(t sweep.Terrace) (all [][][]int) {
	numbers(t, func(truth [][]int) {
		if isTruth(t, truth) {
			var one [][]int
			for _, l := range truth {
				one = append(one, slices.Clone(l))
			}
			all = append(all, one)
		}
	})
	return all
}

// bounds returns the range of a number of some truths.
func bounds(some [][][]int, of func([][]int) int) sweep.Range {
	r := to(of(some[0]), of(some[0]))
	for _, truth := range some {
		r = to(min(r.Lo, of(truth)), max(r.Hi, of(truth)))
	}
	return r
}

// eachPlot calls a function with all plots of a terrace, in their order.
func eachPlot(t sweep.Terrace, call func(part, plot int)) {
	for i, p := range t.Parts {
		for k := range p.Plots {
			call(i, k)
		}
	}
}

// plotsOf returns the bounds of all plots in some truths.
func plotsOf(t sweep.Terrace, some [][][]int) [][]sweep.Range {
	all := make([][]sweep.Range, len(t.Parts))
	eachPlot(t, func(part, plot int) {
		all[part] = append(all[part], bounds(some, func(truth [][]int) int { return truth[part][plot] }))
	})
	return all
}

// worstOf returns the worst number and the worst width for a plot and an error, by some truths.
func worstOf(some [][][]int, part, plot, err int) (number, wide int) {
	of := func(truth [][]int) int { return truth[part][plot] }
	wide = -1
	r := bounds(some, of)
	for n := r.Lo; n <= r.Hi; n++ {
		var kept [][][]int
		for _, truth := range some {
			if of(truth) >= n-err && of(truth) <= n+err {
				kept = append(kept, truth)
			}
		}
		if w := width(bounds(kept, sum)); w > wide {
			number, wide = n, w
		}
	}
	return number, wide
}

// least is the answer of Best for worst widths that a function returns.
func least(t sweep.Terrace, worst func(part, plot int) int) (part, plot, wide int) {
	wide = -1
	eachPlot(t, func(i, k int) {
		if w := worst(i, k); wide < 0 || w < wide {
			part, plot, wide = i, k, w
		}
	})
	return part, plot, wide
}

// sets has the sets of the indexes of so many samples, shorter ones first, and those of the same length in lexicographic order.
func sets(length int) (all [][]int) {
	for bits := range 1 << length {
		var set []int
		for i := range length {
			if bits>>i&1 == 1 {
				set = append(set, i)
			}
		}
		all = append(all, set)
	}
	slices.SortFunc(all, func(a, b []int) int {
		if len(a) != len(b) {
			return len(a) - len(b)
		}
		return slices.Compare(a, b)
	})
	return all
}

// without leaves samples out.
func without(t sweep.Terrace, set []int) sweep.Terrace {
	var kept []sweep.Sample
	for i, x := range t.Samples {
		if !slices.Contains(set, i) {
			kept = append(kept, x)
		}
	}
	t.Samples = kept
	return t
}

// joined joins ranges that have numbers in common, or are next to each other.
func joined(l []sweep.Range) (all []sweep.Range) {
	slices.SortFunc(l, func(a, b sweep.Range) int { return a.Lo - b.Lo })
	for _, r := range l {
		if n := len(all) - 1; n >= 0 && r.Lo <= all[n].Hi+1 {
			all[n].Hi = max(all[n].Hi, r.Hi)
		} else {
			all = append(all, r)
		}
	}
	return all
}

// sumsOf returns the sums that a part can have, by the smallest number that one of its plots can have.
func sumsOf(t sweep.Terrace, part int) (all []sweep.Range) {
	p := t.Parts[part]
	known := make([]sweep.Range, p.Plots)
	for i := range known {
		known[i] = p.Each
	}
	for _, x := range t.Samples {
		if x.Part == part {
			known[x.Plot] = to(max(known[x.Plot].Lo, x.Swept.Lo), min(known[x.Plot].Hi, x.Swept.Hi))
		}
	}
	for n := p.Each.Lo; n <= p.Each.Hi; n++ {
		sums, can := to(0, 0), true
		for _, r := range known {
			low, high := max(r.Lo, n), min(r.Hi, n+p.Differ)
			sums, can = to(sums.Lo+low, sums.Hi+high), can && low <= high
		}
		if can {
			all = append(all, sums)
		}
	}
	return joined(all)
}

// wholeOf returns the bounds of the whole, and whether the terrace is consistent.
func wholeOf(t sweep.Terrace) (sweep.Range, bool) {
	sums := row(to(0, 0))
	for i := range t.Parts {
		var longer []sweep.Range
		for _, a := range sums {
			for _, b := range sumsOf(t, i) {
				longer = append(longer, to(a.Lo+b.Lo, a.Hi+b.Hi))
			}
		}
		sums = joined(longer)
	}
	found, can := to(0, 0), false
	for _, r := range sums {
		r = to(max(r.Lo, t.Weighed.Lo), min(r.Hi, t.Weighed.Hi))
		if r.Lo <= r.Hi && !can {
			found, can = r, true
		} else if r.Lo <= r.Hi {
			found.Hi = r.Hi
		}
	}
	return found, can
}

// numbersOf has the numbers of a plot with which a terrace is consistent.
func numbersOf(t sweep.Terrace, part, plot int) (all []int) {
	for n := t.Parts[part].Each.Lo; n <= t.Parts[part].Each.Hi; n++ {
		if _, can := wholeOf(with(t, sample(part, plot, n, n))); can {
			all = append(all, n)
		}
	}
	return all
}

// more is one more sample.
func more(part, plot, n, err int) sweep.Sample {
	return sample(part, plot, max(0, n-err), min(1000, n+err))
}

// size bounds the terraces that are drawn.
type size struct{ parts, plots, most, wide, samples int }

var (
	// small terraces have few truths, so that all of them can be tried.
	small = size{parts: 2, plots: 5, most: 9, wide: 3, samples: 4}
	// middle terraces can be tried by the second reference.
	middle = size{parts: 4, plots: 10, most: 60, wide: 25, samples: 6}
	// large terraces reach the limits.
	large = size{parts: 4, plots: 24, most: 1000, wide: 1000, samples: 8}
)

func chance(seed uint64) *rand.Rand { return rand.New(rand.NewPCG(seed, 5)) }

func between(r *rand.Rand, low, high int) int { return low + r.IntN(high-low+1) }

// someRange draws a range from 0 to a number that is not wider than another one; often it is at an end.
func someRange(r *rand.Rand, high, wide int) sweep.Range {
	switch r.IntN(6) {
	case 0:
		return to(0, r.IntN(min(high, wide)+1))
	case 1:
		return to(high-r.IntN(min(high, wide)+1), high)
	}
	low := r.IntN(high + 1)
	return to(low, min(high, low+r.IntN(wide+1)))
}

// drawNumbers draws numbers that a part can have, whatever was sampled and weighed.
func drawNumbers(r *rand.Rand, p sweep.Part) (l []int) {
	low := between(r, p.Each.Lo, p.Each.Hi)
	for range p.Plots {
		l = append(l, between(r, low, min(p.Each.Hi, low+p.Differ)))
	}
	r.Shuffle(len(l), func(i, k int) { l[i], l[k] = l[k], l[i] })
	return l
}

func drawTruth(r *rand.Rand, parts []sweep.Part) (truth [][]int) {
	for _, p := range parts {
		truth = append(truth, drawNumbers(r, p))
	}
	return truth
}

// around draws a range from 0 to a number that has another one.
func around(r *rand.Rand, n, high, wide int) sweep.Range {
	return to(max(0, n-r.IntN(wide+1)), min(high, n+r.IntN(wide+1)))
}

// drawSample draws a sample of a truth.
func drawSample(r *rand.Rand, truth [][]int, wide int) sweep.Sample {
	i := r.IntN(len(truth))
	k := r.IntN(len(truth[i]))
	return sweep.Sample{Part: i, Plot: k, Swept: around(r, truth[i][k], 1000, wide)}
}

// draw draws a valid terrace; samples and what was weighed are those of a truth, or of different ones and of none.
func draw(r *rand.Rand, z size) (t sweep.Terrace) {
	plots := z.plots
	for range between(r, 1, z.parts) {
		if plots == 0 {
			break
		}
		p := part(between(r, 1, min(6, plots)), 0, 0, between(r, 1, z.wide))
		if r.IntN(2) == 0 {
			p.Differ = between(r, 1, min(z.wide, 3))
		}
		plots -= p.Plots
		p.Each = someRange(r, z.most, z.wide)
		if r.IntN(8) == 0 {
			p.Each = to(1000-width(p.Each), 1000)
		}
		t.Parts = append(t.Parts, p)
	}
	truth, mixed := drawTruth(r, t.Parts), r.IntN(6) // of 5 samples so many are those of others, or of none
	for range r.IntN(z.samples + 1) {
		x := drawSample(r, truth, z.wide/2+1)
		if r.IntN(5) < mixed {
			x = drawSample(r, drawTruth(r, t.Parts), z.wide/4)
			if r.IntN(4) == 0 {
				x.Swept = someRange(r, z.most, z.wide)
			}
		}
		t.Samples = append(t.Samples, x)
	}
	t.Weighed = to(0, api.MaxSweepWhole)
	if r.IntN(3) > 0 {
		whole := sum(truth)
		if mixed > 2 && r.IntN(3) == 0 {
			whole = min(api.MaxSweepWhole, max(0, whole+between(r, -4*z.wide, 4*z.wide)))
		}
		t.Weighed = around(r, whole, api.MaxSweepWhole, z.wide)
	}
	return t
}
