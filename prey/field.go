package prey

import (
	"iter"

	"nochez/api"
	"nochez/lists"
	"nochez/nest"
)

// check returns the error of a field, or OK.
func (f Field) check() api.Errno {
	if e := nest.CheckGrove(f.Grove); e != api.OK {
		return e
	}
	if !f.names(f.Start) || len(f.Eats) != len(f.Grove.Pads) || !lists.Each(f.Eats, canBeEaten) {
		return api.ErrArg
	}
	return api.OK
}

// has reports whether there is such a pad.
func (f Field) has(pad int) bool { return pad >= 0 && pad < len(f.Grove.Pads) }

// names reports whether a list is an increasing list of pads.
func (f Field) names(pads []int) bool { return lists.Each(pads, f.has) && lists.Rises(pads) }

// canBeEaten reports whether a moth can eat so much in a week.
func canBeEaten(amount int) bool { return amount >= 0 && amount <= api.MaxPreyEats }

// hunt is a field at work.
type hunt struct {
	Field
	near [api.MaxNestPads]set // each pad, with its neighbours
}

// open returns a valid field as a field at work, or its error.
func open(f Field) (*hunt, api.Errno) {
	if e := f.check(); e != api.OK {
		return nil, e
	}
	h := &hunt{Field: f}
	for pad := range h.Eats {
		h.near[pad] = setOf(pad)
	}
	for _, j := range h.Grove.Joins {
		h.near[j.A] |= setOf(j.B)
		h.near[j.B] |= setOf(j.A)
	}
	return h, api.OK
}

// openPlan returns a field and a plan for it at work, or their error.
func openPlan(f Field, plan [][]int) (*hunt, []set, api.Errno) {
	h, e := open(f)
	if e != api.OK {
		return nil, nil, e
	}
	if len(plan) > api.MaxPreyWeeks {
		return nil, nil, api.ErrLimit
	}
	if !lists.Each(plan, h.names) {
		return nil, nil, api.ErrRange
	}
	weeks := make([]set, len(plan))
	for week, pads := range plan {
		weeks[week] = setOf(pads...)
	}
	return h, weeks, api.OK
}

// next yields the pads on which a moth can be after it has stayed on one of some pads, or has moved from there, in increasing order.
func (h *hunt) next(from set) iter.Seq[int] {
	return func(yield func(int) bool) {
		for pad := range h.Eats {
			if h.near[pad].meets(from) && !yield(pad) {
				return
			}
		}
	}
}

// reached returns the pads on which a moth can be after it has stayed on one of some pads, or has moved from there.
func (h *hunt) reached(from set) set {
	var reached set
	for pad := range h.next(from) {
		reached |= setOf(pad)
	}
	return reached
}

// may returns the pads on which a moth may be, at first and after each week.
func (h *hunt) may(plan []set) []set {
	may := []set{setOf(h.Start...)}
	for week, picked := range plan {
		may = append(may, h.reached(may[week]).without(picked))
	}
	return may
}

// clears reports whether a moth may be nowhere after the last week.
func (h *hunt) clears(plan []set) bool { return h.may(plan)[len(plan)] == 0 }
