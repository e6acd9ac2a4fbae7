package sweep

import (
	"sort"

	"nochez/api"
	"nochez/lists"
)

// end is one of the two ends of ranges.
type end struct {
	of    func(Range) int
	inner func(first int, more ...int) int // which of several such ends excludes the most
}

func lowEnd() end { return end{of: Range.low, inner: lists.Most} }

func highEnd() end { return end{of: Range.high, inner: lists.Least} }

// innermost returns the innermost one of the ends of ranges.
func (x end) innermost(ranges []Range) int {
	n := x.of(ranges[0])
	for _, r := range ranges[1:] {
		n = x.inner(n, x.of(r))
	}
	return n
}

// sum returns the sum of the ends of ranges.
func (x end) sum(ranges []Range) int {
	sum := 0
	for _, r := range ranges {
		sum += x.of(r)
	}
	return sum
}

// row has the ranges of the plots of a part.
type row [api.MaxSweepPlots]Range

// survey is a terrace at work: what is left of each plot by all but what was weighed.
//
// If none of its ranges is empty, a part can have all low ends together, and all high ends. The former become the latter if, again and again, the smallest number that is not at its high end yet is raised by 1. Since Differ is at least 1, the part can have all that comes between, so that each sum between both occurs.
type survey struct {
	Terrace
	rows [api.MaxSweepParts]row
}

// sampled returns what is left of each plot by Each of its part, and by samples of it.
func (t Terrace) sampled(samples []Sample) map[place]Range {
	left := map[place]Range{}
	for p := range t.plots() {
		left[p] = t.Parts[p.part].Each
	}
	for _, x := range samples {
		left[x.place()] = left[x.place()].meets(x.Swept)
	}
	return left
}

// survey returns a valid terrace as a terrace at work, with these samples instead of its own.
func (t Terrace) survey(samples []Sample) *survey {
	s := &survey{Terrace: t}
	for p, r := range t.sampled(samples) {
		s.rows[p.part][p.plot] = r
	}
	for part := range t.Parts {
		s.compare(part)
	}
	return s
}

// open returns a valid terrace as a terrace at work, or its error.
func open(t Terrace) (*survey, api.Errno) {
	if e := t.check(); e != api.OK {
		return nil, e
	}
	return t.survey(t.Samples), api.OK
}

// openConsistent returns a valid and consistent terrace as a terrace at work, or its error.
func openConsistent(t Terrace) (*survey, api.Errno) {
	s, e := open(t)
	if e == api.OK && !s.consistent() {
		return nil, api.ErrFail
	}
	return s, e
}

// ranges returns the ranges of the plots of a part, in the survey's memory.
func (s *survey) ranges(part int) []Range { return s.rows[part][:s.Parts[part].Plots] }

// compare leaves of each plot of a part what does not differ too much from all of another one.
func (s *survey) compare(part int) {
	ranges, differ := s.ranges(part), s.Parts[part].Differ
	near := Range{Lo: lowEnd().innermost(ranges) - differ, Hi: highEnd().innermost(ranges) + differ}
	for i, r := range ranges {
		ranges[i] = r.meets(near)
	}
}

// left returns what is left of a plot.
func (s *survey) left(p place) Range { return s.rows[p.part][p.plot] }

// with returns a survey in which a plot has a number in a range, too.
func (s *survey) with(p place, r Range) *survey {
	next := *s
	next.rows[p.part][p.plot] = s.left(p).meets(r)
	next.compare(p.part)
	return &next
}

// at returns a survey in which a plot has a number.
func (s *survey) at(p place, number int) *survey { return s.with(p, Range{Lo: number, Hi: number}) }

// sums returns the range of the sums of all numbers, whatever was weighed.
func (s *survey) sums() Range {
	var sums Range
	for part := range s.Parts {
		ranges := s.ranges(part)
		sums.Lo += lowEnd().sum(ranges)
		sums.Hi += highEnd().sum(ranges)
	}
	return sums
}

// whole returns the bounds of the whole.
func (s *survey) whole() Range { return s.sums().meets(s.Weighed) }

func (s *survey) consistent() bool {
	for p := range s.plots() {
		if s.left(p).isEmpty() {
			return false
		}
	}
	return !s.whole().isEmpty()
}

// bounds returns the bounds of a plot of a consistent terrace. The more there is on the plot, the greater are both ends of the sums.
func (s *survey) bounds(p place) Range {
	left := s.left(p)
	few := sort.Search(left.width(), func(more int) bool { return s.at(p, left.Lo+more).sums().Hi >= s.Weighed.Lo })
	many := sort.Search(left.width(), func(less int) bool { return s.at(p, left.Hi-less).sums().Lo <= s.Weighed.Hi })
	return Range{Lo: left.Lo + few, Hi: left.Hi - many}
}

// truth returns a truth with a whole that is within its bounds: as little as can be on each plot, one after the other.
func (s *survey) truth(whole int) [][]int {
	known := *s
	known.Weighed = Range{Lo: whole, Hi: whole}
	truth := make([][]int, len(s.Parts))
	for p := range s.plots() {
		number := known.bounds(p).Lo
		known = *known.at(p, number)
		truth[p.part] = append(truth[p.part], number)
	}
	return truth
}
