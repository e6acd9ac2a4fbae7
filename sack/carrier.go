package sack

import (
	"nochez/api"
	"nochez/lists"
)

// ends has both ends of what a trip loses of so many ounces of a sack.
type ends struct{ least, most func(t Trip, ounces int) int }

func bothEnds() ends { return ends{least: Trip.leastLost, most: Trip.mostLost} }

func (t Trip) leastLost(ounces int) int { return ounces * t.Loss.Lo / whole }

func (t Trip) mostLost(ounces int) int { return (ounces*t.Loss.Hi + whole - 1) / whole }

// carrier is roads at work.
type carrier struct {
	Roads
	lost    ends
	travels [][]travel   // of each sack those by which it is in time, from the smallest one on
	known   map[stop]int // what is known of the fewest days from a stop on
}

// open returns valid roads at work, or their error.
func open(r Roads) (*carrier, api.Errno) {
	if e := r.check(); e != api.OK {
		return nil, e
	}
	return &carrier{Roads: r, lost: bothEnds(), known: map[stop]int{}}, api.OK
}

// openPlan returns roads at work to which a plan belongs, or their error.
func openPlan(r Roads, p Plan) (*carrier, api.Errno) {
	c, e := open(r)
	if e == api.OK && !c.canFollow(p) {
		return nil, api.ErrRange
	}
	return c, e
}

// openFound returns roads at work to which a plan and finds belong, or their error.
func openFound(r Roads, p Plan, finds []Find) (*carrier, api.Errno) {
	c, e := openPlan(r, p)
	if e != api.OK {
		return nil, e
	}
	switch {
	case len(finds) > api.MaxSackFinds:
		return nil, api.ErrLimit
	case !lists.Each(finds, c.canHaveFind):
		return nil, api.ErrRange
	}
	return c, api.OK
}

// play returns the weight of each sack at the end, and whether all that is lost can be.
func (c *carrier) play(p Plan, t Truth) (weights []int, can bool) {
	can = true
	for sack, list := range p {
		ounces := t.Weight[sack]
		for i, trip := range list {
			gone := t.Lost[sack][i]
			on := c.Trips[trip]
			// Ounces are below 0 only after something that cannot be.
			can = can && Range{Lo: c.lost.least(on, ounces), Hi: c.lost.most(on, ounces)}.has(gone)
			ounces -= gone
		}
		weights = append(weights, ounces)
	}
	return weights, can
}

// course returns the bounds of the weight of a sack that takes a list of trips, when each of them leaves, and at the end. With an ounce more neither end of what is left is lower, nor is it higher by more than an ounce; so the ends lead to the ends, and all between them is left of something.
func (c *carrier) course(sack int, list []int) []Range {
	ounces := c.Sacks[sack].Weight
	course := []Range{ounces}
	for _, trip := range list {
		on := c.Trips[trip]
		ounces = Range{Lo: ounces.Lo - c.lost.most(on, ounces.Lo), Hi: ounces.Hi - c.lost.least(on, ounces.Hi)}
		course = append(course, ounces)
	}
	return course
}

// arrival is a sack at the end: where and when it comes, with which weight, and its mark.
type arrival struct {
	place, day int
	weight     Range
	mark       int
}

// arrivals returns all sacks at the end.
func (c *carrier) arrivals(p Plan) []arrival {
	var all []arrival
	for sack, list := range p {
		place, day := c.comes(sack, list)
		all = append(all, arrival{place: place, day: day, weight: c.course(sack, list)[len(list)], mark: c.Sacks[sack].Mark})
	}
	return all
}

// late returns the sacks that are not in time, rising.
func (c *carrier) late(p Plan) []int {
	var late []int
	for sack := range len(c.Sacks) {
		if !c.isInTime(sack, p[sack]) {
			late = append(late, sack)
		}
	}
	return late
}

// days returns the sum of the days on which the sacks come.
func (c *carrier) days(p Plan) int {
	days := 0
	for _, a := range c.arrivals(p) {
		days += a.day
	}
	return days
}

// loads has for each trip the most ounces that it has to carry.
type loads [api.MaxSackTrips]int

// with adds other loads.
func (l loads) with(more loads) loads {
	for trip, ounces := range more {
		l[trip] += ounces
	}
	return l
}

// brings returns what a sack that takes a list of trips brings to them. Sacks have their greatest weights in a truth together, since what one of them loses does not depend on the others.
func (c *carrier) brings(sack int, list []int) loads {
	var l loads
	course := c.course(sack, list)
	for i, trip := range list {
		l[trip] = course[i].Hi
	}
	return l
}

// overloaded returns the trips that cannot carry their loads, rising.
func (c *carrier) overloaded(l loads) []int {
	var over []int
	for trip, t := range c.Trips {
		if l[trip] > t.Load {
			over = append(over, trip)
		}
	}
	return over
}

// over returns the trips that can be overloaded by a plan, rising.
func (c *carrier) over(p Plan) []int {
	var l loads
	for sack, list := range p {
		l = l.with(c.brings(sack, list))
	}
	return c.overloaded(l)
}
