package kill

import (
	"sort"

	"nochez/api"
	"nochez/lists"
)

// off has both ends of what goes off in a place, in one step, of so much water.
type off struct{ least, most func(p Place, water int) int }

func bothEnds() off { return off{least: Place.leastOff, most: Place.mostOff} }

func (p Place) leastOff(water int) int { return water * p.Loss.Lo / whole }

func (p Place) mostOff(water int) int { return (water*p.Loss.Hi + whole - 1) / whole }

// shift is a house at work.
type shift struct {
	House
	off   off
	known map[passage]int // what is known of the least work from a passage on
}

// open returns a valid house as a house at work, or its error.
func open(h House) (*shift, api.Errno) {
	if e := h.check(); e != api.OK {
		return nil, e
	}
	return &shift{House: h, off: bothEnds(), known: map[passage]int{}}, api.OK
}

// openPlan returns a house at work to which a plan belongs, or their error.
func openPlan(h House, p Plan) (*shift, api.Errno) {
	s, e := open(h)
	if e == api.OK && !s.canFollow(p) {
		return nil, api.ErrRange
	}
	return s, e
}

// openWeighed returns a house at work to which a plan and weighings belong, or their error.
func openWeighed(h House, p Plan, l []Weigh) (*shift, api.Errno) {
	s, e := openPlan(h, p)
	if e != api.OK {
		return nil, e
	}
	switch {
	case len(l) > api.MaxKillWeighs:
		return nil, api.ErrLimit
	case !lists.Each(l, s.canHave):
		return nil, api.ErrRange
	}
	return s, api.OK
}

// at returns a place; nothing goes off in None, which kills nothing.
func (s *shift) at(place int) Place {
	if place == None {
		return Place{}
	}
	return s.Places[place]
}

// goesOff returns what can go off of so much water.
func (s *shift) goesOff(place, water int) Range {
	return Range{Lo: s.off.least(s.at(place), water), Hi: s.off.most(s.at(place), water)}
}

// play returns the water of each lot after each step, and whether all that goes off can do so.
func (s *shift) play(p Plan, t Truth) (water [][]int, can bool) {
	can = true
	for lot, list := range p {
		left := t.Water[lot]
		var row []int
		for step, place := range list {
			gone := t.Off[lot][step]
			// What is left is below 0 only after something that cannot be.
			can = can && s.goesOff(place, left).has(gone)
			left -= gone
			row = append(row, left)
		}
		water = append(water, row)
	}
	return water, can
}

// after returns what can be left of a range of water. With an ounce more neither end is lower, nor is it higher by more than an ounce; so all between the ends is left of something.
func (s *shift) after(place int, water Range) Range {
	return Range{Lo: water.Lo - s.goesOff(place, water.Lo).Hi, Hi: water.Hi - s.goesOff(place, water.Hi).Lo}
}

// before returns of a range of water that of which something in another range can be left. There is some, and as neither end of what is left falls, it is a range.
func (s *shift) before(place int, water, left Range) Range {
	after := func(water int) Range { return s.after(place, Range{Lo: water, Hi: water}) }
	few := sort.Search(water.Hi-water.Lo, func(more int) bool { return after(water.Lo+more).Hi >= left.Lo })
	many := sort.Search(water.Hi-water.Lo, func(less int) bool { return after(water.Hi-less).Lo <= left.Hi })
	return Range{Lo: water.Lo + few, Hi: water.Hi - many}
}

// weighed returns what weighings leave of the water of a lot after a step.
func (s *shift) weighed(lot, step int, seen []Weigh) Range {
	water, dry := upTo(api.MaxKillWeight), s.Lots[lot].Dry
	for _, x := range seen {
		if x.Lot == lot && x.Step == step {
			water = water.meets(Range{Lo: x.Weight.Lo - dry, Hi: x.Weight.Hi - dry})
		}
	}
	return water
}

// waters returns the bounds of the water of a lot after each step, unless weighings of it contradict each other.
func (s *shift) waters(lot int, list []int, seen []Weigh) ([]Range, bool) {
	bounds := []Range{s.Lots[lot].Water}
	for step, place := range list {
		next := s.after(place, bounds[step]).meets(s.weighed(lot, step, seen))
		if next.isEmpty() {
			return nil, false
		}
		bounds = append(bounds, next)
	}
	// What was weighed tells of the steps before it, too.
	for step := s.Steps - 1; step > 0; step-- {
		bounds[step] = s.before(list[step], bounds[step], bounds[step+1])
	}
	return bounds[1:], true
}

// bounds returns the bounds of the water of all lots after each step, unless weighings contradict each other.
func (s *shift) bounds(p Plan, seen []Weigh) ([][]Range, bool) {
	var all [][]Range
	for lot, list := range p {
		bounds, can := s.waters(lot, list, seen)
		if !can {
			return nil, false
		}
		all = append(all, bounds)
	}
	return all, true
}

// shrink returns the range of what goes off of all lots in all steps. With an ounce more at first, at most an ounce more is left at the end; so of the least water the least goes off, and of the most the most.
func (s *shift) shrink(p Plan) Range {
	var gone Range
	for lot, list := range p {
		few, many := s.Lots[lot].Water.Lo, s.Lots[lot].Water.Hi
		for _, place := range list {
			least, most := s.off.least(s.at(place), few), s.off.most(s.at(place), many)
			few, many = few-least, many-most
			gone = Range{Lo: gone.Lo + least, Hi: gone.Hi + most}
		}
	}
	return gone
}
