package grow

import (
	"iter"

	"nochez/api"
	"nochez/lists"
)

// The greatest numbers that a stage can have in Weak, and a day in Loss; and what one dead insect is, if both are multiplied.
const (
	mostWeak = 100
	mostLoss = 1000
	whole    = mostWeak * mostLoss
)

func (r Range) has(n int) bool { return r.Lo <= n && n <= r.Hi }

// isWithin reports whether the range is valid, and has its ends in another one.
func (r Range) isWithin(other Range) bool { return r.Lo <= r.Hi && other.has(r.Lo) && other.has(r.Hi) }

// with returns the range from the smallest to the greatest number of a range and one more number.
func (r Range) with(n int) Range { return Range{Lo: lists.Least(r.Lo, n), Hi: lists.Most(r.Hi, n)} }

// each yields the numbers of the range.
func (r Range) each() iter.Seq[int] {
	return func(yield func(int) bool) {
		for n := r.Lo; n <= r.Hi; n++ {
			if !yield(n) {
				return
			}
		}
	}
}

// living is the range of the numbers of insects that can be alive.
func living() Range { return Range{Lo: 0, Hi: api.MaxGrowNumber} }

func (d Day) valid() bool {
	return d.Warmth.isWithin(Range{Lo: 0, Hi: api.MaxGrowWarmth}) && d.Loss.isWithin(Range{Lo: 0, Hi: mostLoss})
}

// check returns the error of a brood, or OK.
func (b Brood) check() api.Errno {
	needs, weak := Range{Lo: 1, Hi: api.MaxGrowSum}, Range{Lo: 0, Hi: mostWeak}
	switch {
	case len(b.Needs) > api.MaxGrowNeeds, len(b.Days) > api.MaxGrowDays:
		return api.ErrLimit
	case len(b.Needs) == 0, len(b.Weak) != len(b.Needs)+1, len(b.Days) == 0:
		return api.ErrArg
	case !lists.Each(b.Needs, needs.has), !lists.Rises(b.Needs), !lists.Each(b.Weak, weak.has):
		return api.ErrArg
	case !b.Number.isWithin(living()), !lists.Each(b.Days, Day.valid):
		return api.ErrArg
	}
	return api.OK
}

// has reports whether there is such a day.
func (b Brood) has(day int) bool { return day >= 0 && day < len(b.Days) }

// stages is the range of all stages.
func (b Brood) stages() Range { return Range{Lo: 0, Hi: len(b.Needs)} }

// stage returns the stage for a sum of warmth.
func (b Brood) stage(sum int) int {
	stage := 0
	for _, need := range b.Needs {
		if need <= sum {
			stage++
		}
	}
	return stage
}

// sees reports whether an observation is valid.
func (b Brood) sees(x Seen) bool {
	return b.has(x.Day) && x.Stage.isWithin(b.stages()) && x.Alive.isWithin(living())
}

// rearing is a brood at work.
type rearing struct {
	Brood
	left [api.MaxGrowDays][api.MaxGrowNeeds + 1]leavings // what each day leaves in each stage
}

// open returns a valid brood as a brood at work, or its error.
func open(b Brood) (*rearing, api.Errno) {
	if e := b.check(); e != api.OK {
		return nil, e
	}
	r := &rearing{Brood: b}
	for day := range len(r.Days) {
		for stage, weak := range r.Weak {
			r.left[day][stage] = r.Days[day].leaves(weak)
		}
	}
	return r, api.OK
}

// openSeen returns a brood at work to which observations belong, or their error.
func openSeen(b Brood, seen []Seen) (*rearing, api.Errno) {
	r, e := open(b)
	if e != api.OK {
		return nil, e
	}
	if len(seen) > api.MaxGrowSeen {
		return nil, api.ErrLimit
	}
	if !lists.Each(seen, r.sees) {
		return nil, api.ErrRange
	}
	return r, api.OK
}
