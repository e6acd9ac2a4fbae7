package nest

import (
	"iter"

	"nochez/api"
	"nochez/lists"
)

// check returns the error of a grove, or OK.
func (g Grove) check() api.Errno {
	switch {
	case len(g.Pads) > api.MaxNestPads, len(g.Joins) > api.MaxNestJoins, len(g.Kinds) > api.MaxNestKinds:
		return api.ErrLimit
	case len(g.Pads) == 0, len(g.Kinds) == 0:
		return api.ErrArg
	case !lists.Each(g.Pads, Pad.valid), !lists.Each(g.Joins, g.joins), !lists.Each(g.Kinds, Kind.valid):
		return api.ErrArg
	}
	return api.OK
}

// has reports whether there is such a pad.
func (g Grove) has(pad int) bool { return pad >= 0 && pad < len(g.Pads) }

// joins reports whether a join of the grove is valid: it names two pads that no other join names.
func (g Grove) joins(j Join) bool {
	same := 0
	for _, other := range g.Joins {
		if other == j || other == (Join{A: j.B, B: j.A}) {
			same++
		}
	}
	return g.has(j.A) && g.has(j.B) && j.A != j.B && same == 1
}

func (p Pad) valid() bool { return p.Need >= 0 && p.Need <= p.Room && p.Room <= api.MaxNestYoung }

func (k Kind) valid() bool {
	return k.Young >= 0 && k.Young <= api.MaxNestYoung && k.Own.valid() && k.Near.valid()
}

func (r Range) valid() bool { return r.Lo >= 0 && r.Lo <= r.Hi && r.Hi <= api.MaxNestYoung }

func (r Range) has(n int) bool { return r.Lo <= n && n <= r.Hi }

func (r Range) low() int { return r.Lo }

func (r Range) high() int { return r.Hi }

// site is a grove at work.
type site struct {
	Grove
	near  [api.MaxNestPads][api.MaxNestPads]bool  // whether two pads are neighbours
	nests [api.MaxNestPads][api.MaxNestKinds]nest // what a nest of each kind is on each pad
}

// open returns a valid grove as a grove at work, or its error.
func open(g Grove) (*site, api.Errno) {
	if e := g.check(); e != api.OK {
		return nil, e
	}
	s := &site{Grove: g}
	for _, j := range s.Joins {
		s.near[j.A][j.B], s.near[j.B][j.A] = true, true
	}
	for pad := range s.Pads {
		for kind, k := range s.Kinds {
			s.nests[pad][kind] = s.nestOn(pad, k)
		}
	}
	return s, api.OK
}

// reached yields the pads that a nest on a pad reaches: this pad, and then its neighbours.
func (s *site) reached(pad int) iter.Seq[int] {
	return func(yield func(int) bool) {
		if !yield(pad) {
			return
		}
		for p := range s.Pads {
			if s.near[pad][p] && !yield(p) {
				return
			}
		}
	}
}

// nestOn returns a nest of a kind on a pad.
func (s *site) nestOn(pad int, k Kind) nest {
	var shares row
	for p := range s.reached(pad) {
		shares[p] = k.Near
	}
	shares[pad] = k.Own
	return newNest(k.Young, shares)
}
