package kill

import (
	"nochez/api"
	"nochez/lists"
)

func (r Range) has(n int) bool { return r.Lo <= n && n <= r.Hi }

// isEmpty reports whether two ranges that were met have no number in common.
func (r Range) isEmpty() bool { return r.Lo > r.Hi }

// meets returns the numbers that both ranges have.
func (r Range) meets(other Range) Range {
	return Range{Lo: lists.Most(r.Lo, other.Lo), Hi: lists.Least(r.Hi, other.Hi)}
}

// isWithin reports whether the range is valid, and has its ends in another one.
func (r Range) isWithin(other Range) bool { return !r.isEmpty() && other.has(r.Lo) && other.has(r.Hi) }

// upTo is the range from 0 to a number.
func upTo(n int) Range { return Range{Lo: 0, Hi: n} }

// whole is of how much a Loss, and a Limit, is a part.
const whole = 1000

// Colours: noColour is that of a lot that is not killed, and of one that asks for none.
const (
	noColour uint8 = iota
	grey
	black
)

func isColour(c uint8) bool { return c == grey || c == black }

func (p Place) valid() bool {
	room, kill := Range{Lo: 1, Hi: api.MaxKillLots}, upTo(api.MaxKillSteps)
	return room.has(p.Room) && kill.has(p.Kill) && isColour(p.Colour) && p.Loss.isWithin(upTo(whole))
}

func (l Lot) valid() bool {
	dry, water := Range{Lo: 1, Hi: api.MaxKillWeight}, upTo(api.MaxKillWeight)
	return dry.has(l.Dry) && l.Water.isWithin(water) && (l.Colour == noColour || isColour(l.Colour)) && upTo(whole).has(l.Limit)
}

// accepts reports whether a lot can have such a colour at the end, and so much water.
func (l Lot) accepts(colour uint8, water int) bool {
	return isColour(colour) && (l.Colour == noColour || l.Colour == colour) && water <= l.Dry*l.Limit/whole
}

// check returns the error of a house, or OK.
func (h House) check() api.Errno {
	switch {
	case len(h.Places) > api.MaxKillPlaces, len(h.Lots) > api.MaxKillLots, h.Steps > api.MaxKillSteps:
		return api.ErrLimit
	case len(h.Places) == 0, len(h.Lots) == 0, h.Steps < 1, !lists.Each(h.Places, Place.valid), !lists.Each(h.Lots, Lot.valid):
		return api.ErrArg
	}
	return api.OK
}

// canBeIn reports whether a lot can be in such a place, or in none.
func (h House) canBeIn(place int) bool { return place == None || place >= 0 && place < len(h.Places) }

// canGo reports whether a lot can go by such a list, if it is alone.
func (h House) canGo(list []int) bool { return len(list) == h.Steps && lists.Each(list, h.canBeIn) }

// crowd has how many lots are in each place, step by step.
type crowd [api.MaxKillSteps][api.MaxKillPlaces]int

// with adds a lot that goes by a list.
func (c crowd) with(list []int) crowd {
	for step, place := range list {
		if place != None {
			c[step][place]++
		}
	}
	return c
}

// holds reports whether there is room for all lots, in each step.
func (h House) holds(c crowd) bool {
	for step := range h.Steps {
		for i, p := range h.Places {
			if c[step][i] > p.Room {
				return false
			}
		}
	}
	return true
}

// canFollow reports whether a plan is as described.
func (h House) canFollow(p Plan) bool {
	if len(p) != len(h.Lots) || !lists.Each(p, h.canGo) {
		return false
	}
	var c crowd
	for _, list := range p {
		c = c.with(list)
	}
	return h.holds(c)
}

// canHave reports whether a weighing is as described.
func (h House) canHave(x Weigh) bool {
	return x.Lot >= 0 && x.Lot < len(h.Lots) && x.Step >= 0 && x.Step < h.Steps && x.Weight.isWithin(upTo(2*api.MaxKillWeight))
}

// canLose reports whether so much can go off in each step, wherever the lot is.
func (h House) canLose(off []int) bool {
	return len(off) == h.Steps && lists.Each(off, upTo(api.MaxKillWeight).has)
}

// plays reports whether a truth can be played: it has the lots and steps of the house, and numbers that are not too small or too great.
func (h House) plays(t Truth) bool {
	if len(t.Water) != len(h.Lots) || len(t.Off) != len(h.Lots) {
		return false
	}
	for i, l := range h.Lots {
		if !l.Water.has(t.Water[i]) {
			return false
		}
	}
	return lists.Each(t.Off, h.canLose)
}
