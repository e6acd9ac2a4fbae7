package sweep

import (
	"iter"

	"nochez/api"
	"nochez/lists"
)

func (r Range) low() int { return r.Lo }

func (r Range) high() int { return r.Hi }

func (r Range) has(n int) bool { return r.Lo <= n && n <= r.Hi }

func (r Range) width() int { return r.Hi - r.Lo }

// isEmpty reports whether two ranges that were met have no number in common.
func (r Range) isEmpty() bool { return r.Lo > r.Hi }

// meets returns the numbers that both ranges have.
func (r Range) meets(other Range) Range {
	return Range{Lo: lists.Most(r.Lo, other.Lo), Hi: lists.Least(r.Hi, other.Hi)}
}

// isWithin reports whether the range is valid, and has its ends in another one.
func (r Range) isWithin(other Range) bool { return !r.isEmpty() && other.has(r.Lo) && other.has(r.Hi) }

// grain is the range of what can be on a plot.
func grain() Range { return Range{Lo: 0, Hi: api.MaxSweepGrain} }

// canErr reports whether one more sample can have such an error.
func canErr(err int) bool { return Range{Lo: 0, Hi: api.MaxSweepError}.has(err) }

// place is the part of a plot, and its number there.
type place struct{ part, plot int }

func (x Sample) place() place { return place{part: x.Part, plot: x.Plot} }

func (p Part) has(plot int) bool { return plot >= 0 && plot < p.Plots }

func (p Part) valid() bool {
	plots, differ := Range{Lo: 1, Hi: api.MaxSweepPlots}, Range{Lo: 1, Hi: api.MaxSweepGrain}
	return plots.has(p.Plots) && p.Each.isWithin(grain()) && differ.has(p.Differ)
}

// canBe reports whether the plots of a part can have such numbers, whatever was sampled and weighed.
func (p Part) canBe(numbers []int) bool {
	return len(numbers) == p.Plots && lists.Each(numbers, p.Each.has) &&
		lists.Most(numbers[0], numbers...)-lists.Least(numbers[0], numbers...) <= p.Differ
}

// check returns the error of a terrace, or OK.
func (t Terrace) check() api.Errno {
	whole := Range{Lo: 0, Hi: api.MaxSweepWhole}
	switch {
	case len(t.Parts) > api.MaxSweepParts, len(t.Samples) > api.MaxSweepSamples:
		return api.ErrLimit
	case len(t.Parts) == 0, !lists.Each(t.Parts, Part.valid), !lists.Each(t.Samples, t.canHave), !t.Weighed.isWithin(whole):
		return api.ErrArg
	}
	return api.OK
}

// has reports whether there is such a plot.
func (t Terrace) has(p place) bool {
	return p.part >= 0 && p.part < len(t.Parts) && t.Parts[p.part].has(p.plot)
}

// canHave reports whether a sample is valid.
func (t Terrace) canHave(x Sample) bool { return t.has(x.place()) && x.Swept.isWithin(grain()) }

// plots yields the plots of all parts, in their order.
func (t Terrace) plots() iter.Seq[place] {
	return func(yield func(place) bool) {
		for part, x := range t.Parts {
			for plot := range x.Plots {
				if !yield(place{part: part, plot: plot}) {
					return
				}
			}
		}
	}
}

// isTruth reports whether lists are a truth of a valid terrace. It goes by the definition alone, so that it is a test of all that is found in other ways.
func (t Terrace) isTruth(truth [][]int) bool {
	if len(truth) != len(t.Parts) {
		return false
	}
	whole := 0
	for part, numbers := range truth {
		if !t.Parts[part].canBe(numbers) {
			return false
		}
		for _, n := range numbers {
			whole += n
		}
	}
	agrees := func(x Sample) bool { return x.Swept.has(truth[x.Part][x.Plot]) }
	return t.Weighed.has(whole) && lists.Each(t.Samples, agrees)
}
