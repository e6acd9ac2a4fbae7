package kill

import (
	"nochez/api"
	"nochez/lists"
)

// never is more work than any plan has.
const never = api.MaxKillLots*api.MaxKillSteps + 1

// passage is a step with what a lot has been through before it, as far as it counts for what comes: the run of steps in a place that can still kill it, the colour that it has got, and the most water that it can have.
type passage struct {
	lot, step  int
	place, run int
	colour     uint8
	water      int
}

// begin returns the first step of a lot.
func (s *shift) begin(lot int) passage {
	return passage{lot: lot, place: None, water: s.Lots[lot].Water.Hi}
}

// next returns the step after one in which the lot is in a place.
func (s *shift) next(at passage, place int) passage {
	p := s.at(place)
	next := passage{lot: at.lot, step: at.step + 1, place: None, colour: at.colour, water: at.water - s.off.least(p, at.water)}
	if at.colour != noColour || p.Kill == 0 {
		return next
	}
	run := 1
	if place == at.place {
		run += at.run
	}
	if run == p.Kill {
		next.colour = p.Colour
	} else {
		next.place, next.run = place, run
	}
	return next
}

// killed returns in which step a lot that goes by a list is killed, and its colour.
func (s *shift) killed(lot int, list []int) (int, uint8) {
	at := s.begin(lot)
	for step, place := range list {
		at = s.next(at, place)
		if at.colour != noColour {
			return step, at.colour
		}
	}
	return None, noColour
}

// ends reports whether a lot is right that has come to the end of its list.
func (s *shift) ends(at passage) bool { return s.Lots[at.lot].accepts(at.colour, at.water) }

// isRight reports whether a lot that goes by a list is right.
func (s *shift) isRight(lot int, list []int) bool {
	at := s.begin(lot)
	for _, place := range list {
		at = s.next(at, place)
	}
	return s.ends(at)
}

// wrong returns the lots that are not right, rising.
func (s *shift) wrong(p Plan) []int {
	var wrong []int
	for lot, list := range p {
		if !s.isRight(lot, list) {
			wrong = append(wrong, lot)
		}
	}
	return wrong
}

// workOf returns how many entries of lists are not None.
func workOf(p ...[]int) int {
	work := 0
	for _, list := range p {
		for _, place := range list {
			if place != None {
				work++
			}
		}
	}
	return work
}

// needs returns the least work by which a lot is right at the end, if it has room everywhere, or never.
func (s *shift) needs(at passage) int {
	if at.step == s.Steps {
		if s.ends(at) {
			return 0
		}
		return never
	}
	least, found := s.known[at]
	if !found {
		least = s.needs(s.next(at, None))
		for place := range s.Places {
			least = lists.Least(least, 1+s.needs(s.next(at, place)))
		}
		s.known[at] = least
	}
	return least
}
