package sack

import (
	"nochez/api"
	"nochez/lists"
)

// never is more days than any plan has by which all sacks are in time.
const never = api.MaxSackSacks*api.MaxSackDay + 1

// travel is a list of trips by which a sack is in time, with the day on which it comes, and what it brings to the trips.
type travel struct {
	list   []int
	day    int
	brings loads
}

// inTime returns the travels of a sack, from the smallest one on.
func (c *carrier) inTime(sack int) []travel {
	var all []travel
	for list := range c.routes(sack) {
		if c.isInTime(sack, list) {
			_, day := c.comes(sack, list)
			all = append(all, travel{list: list, day: day, brings: c.brings(sack, list)})
		}
	}
	return all
}

// stop is a sack that has still to be sent, with the loads that the sacks before it bring to all trips.
type stop struct {
	sack  int
	loads loads
}

// next returns the stop after one whose sack takes a travel.
func (at stop) next(x travel) stop {
	return stop{sack: at.sack + 1, loads: at.loads.with(x.brings)}
}

// needs returns the fewest days of the sack of a stop and those after it, or never if they cannot all be in time.
func (c *carrier) needs(at stop) int {
	if at.sack == len(c.Sacks) {
		return 0
	}
	least, found := c.known[at]
	if !found {
		least = never
		for _, x := range c.travels[at.sack] {
			least = lists.Least(least, c.needsBy(at, x))
		}
		c.known[at] = least
	}
	return least
}

// needsBy is what needs is if the sack of the stop takes a travel.
func (c *carrier) needsBy(at stop, x travel) int {
	next := at.next(x)
	if len(c.overloaded(next.loads)) > 0 {
		return never
	}
	return x.day + c.needs(next)
}

// best returns the best plan, and its days, or never if there is none. It has for each sack the first travel with which the plan can still have the fewest days.
func (c *carrier) best() (Plan, int) {
	for sack := range len(c.Sacks) {
		c.travels = append(c.travels, c.inTime(sack))
	}
	var at stop
	days := c.needs(at)
	if days == never {
		return nil, never
	}
	var best Plan
	for sack := range len(c.Sacks) {
		for _, x := range c.travels[sack] {
			if c.needsBy(at, x) == c.needs(at) {
				best, at = append(best, x.list), at.next(x)
				break
			}
		}
	}
	return best, days
}
