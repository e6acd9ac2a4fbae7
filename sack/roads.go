package sack

import (
	"iter"
	"slices"

	"nochez/api"
	"nochez/lists"
)

func (r Range) has(n int) bool { return r.Lo <= n && n <= r.Hi }

// spans reports whether another range is valid, and has its ends in this one.
func (r Range) spans(other Range) bool {
	return other.Lo <= other.Hi && r.has(other.Lo) && r.has(other.Hi)
}

// meets reports whether both ranges have a number in common.
func (r Range) meets(other Range) bool { return r.Lo <= other.Hi && other.Lo <= r.Hi }

func upTo(most int) Range { return Range{Lo: 0, Hi: most} }

func fromOne(most int) Range { return Range{Lo: 1, Hi: most} }

// whole is of how many ounces a Loss is a part.
const whole = 1000

// check returns the error of roads, or OK.
func (r Roads) check() api.Errno {
	switch {
	case r.Places > api.MaxSackPlaces, len(r.Trips) > api.MaxSackTrips, len(r.Sacks) > api.MaxSackSacks:
		return api.ErrLimit
	case r.Places < 1, len(r.Sacks) == 0, !lists.Each(r.Trips, r.canHaveTrip), !lists.Each(r.Sacks, r.canHaveSack):
		return api.ErrArg
	}
	return api.OK
}

func (r Roads) hasPlace(place int) bool { return place >= 0 && place < r.Places }

func (r Roads) canHaveTrip(t Trip) bool {
	joins := r.hasPlace(t.From) && r.hasPlace(t.To) && t.From != t.To
	goes := upTo(api.MaxSackDay).has(t.Day) && fromOne(api.MaxSackDay).has(t.Days)
	return joins && goes && upTo(api.MaxSackLoad).has(t.Load) && upTo(whole).spans(t.Loss)
}

func (r Roads) canHaveSack(s Sack) bool {
	goes := r.hasPlace(s.Start) && r.hasPlace(s.Goal) && upTo(api.MaxSackDay).has(s.Due)
	return goes && fromOne(api.MaxSackWeight).spans(s.Weight) && fromOne(api.MaxSackMarks).has(s.Mark)
}

func (r Roads) canHaveFind(x Find) bool {
	return r.hasPlace(x.Place) && upTo(api.MaxSackWeight).spans(x.Weight) && upTo(api.MaxSackMarks).has(x.Mark)
}

// comes returns the place to which a sack comes by a list of trips, and the day.
func (r Roads) comes(sack int, list []int) (place, day int) {
	if len(list) == 0 {
		return r.Sacks[sack].Start, 0
	}
	last := r.Trips[list[len(list)-1]]
	return last.To, last.Day + last.Days
}

// isInTime reports whether a sack that takes a list of trips comes to its Goal, on its Due or before.
func (r Roads) isInTime(sack int, list []int) bool {
	place, day := r.comes(sack, list)
	return place == r.Sacks[sack].Goal && day <= r.Sacks[sack].Due
}

// canTake reports whether there is such a trip, and a sack can take it after a list of trips.
func (r Roads) canTake(sack int, list []int, trip int) bool {
	if trip < 0 || trip >= len(r.Trips) {
		return false
	}
	place, day := r.comes(sack, list)
	next := r.Trips[trip]
	return next.From == place && next.Day >= day
}

// routes yields the lists of trips that a sack can take, from the smallest one on, each in memory of its own. The lists that are extended are in this order, so what they are extended to is in it, too.
func (r Roads) routes(sack int) iter.Seq[[]int] {
	return func(yield func([]int) bool) {
		for routes := [][]int{nil}; len(routes) > 0; routes = routes[1:] {
			if !yield(routes[0]) {
				return
			}
			for trip := range r.Trips {
				if r.canTake(sack, routes[0], trip) {
					routes = append(routes, append(slices.Clone(routes[0]), trip))
				}
			}
		}
	}
}

// canFollow reports whether a plan is as described.
func (r Roads) canFollow(p Plan) bool {
	if len(p) != len(r.Sacks) {
		return false
	}
	for sack, list := range p {
		for i, trip := range list {
			if !r.canTake(sack, list[:i], trip) {
				return false
			}
		}
	}
	return true
}

// plays reports whether a truth can be played with a plan: it has the sacks of the roads, and for each of them a weight that it can have and a number for each of its trips that is not too small or too great.
func (r Roads) plays(p Plan, t Truth) bool {
	if len(t.Weight) != len(r.Sacks) || len(t.Lost) != len(r.Sacks) {
		return false
	}
	for sack := range len(r.Sacks) {
		if !r.Sacks[sack].Weight.has(t.Weight[sack]) || len(t.Lost[sack]) != len(p[sack]) {
			return false
		}
		if !lists.Each(t.Lost[sack], upTo(api.MaxSackWeight).has) {
			return false
		}
	}
	return true
}
