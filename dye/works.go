package dye

import (
	"nochez/api"
	"nochez/lists"
)

func (r Range) has(n int) bool { return r.Lo <= n && n <= r.Hi }

// spans reports whether another range is valid, and has its ends in this one.
func (r Range) spans(other Range) bool {
	return other.Lo <= other.Hi && r.has(other.Lo) && r.has(other.Hi)
}

// anyStrength has all strengths, and all errors of readings.
func anyStrength() Range { return Range{Lo: 0, Hi: api.MaxDyeStrength} }

// anyDifference has all differences of strengths.
func anyDifference() Range { return Range{Lo: -api.MaxDyeStrength, Hi: api.MaxDyeStrength} }

// check returns the error of works, or OK.
func (w Works) check() api.Errno {
	switch {
	case len(w.Lots) > api.MaxDyeLots, len(w.Readings) > api.MaxDyeReadings:
		return api.ErrLimit
	case len(w.Lots) == 0, !lists.Each(w.Lots, anyStrength().spans), !lists.Each(w.Readings, w.canHave):
		return api.ErrArg
	}
	return api.OK
}

// canHave reports whether a reading is valid.
func (w Works) canHave(r Reading) bool {
	if !w.hasLot(r.Lot) || !anyStrength().has(r.Error) {
		return false
	}
	switch r.Kind {
	case Scale:
		return r.Other == 0 && anyStrength().has(r.Value)
	case Compare:
		return w.hasLot(r.Other) && r.Other != r.Lot && anyDifference().has(r.Value)
	}
	return false
}

func (w Works) hasLot(lot int) bool { return lot >= 0 && lot < len(w.Lots) }

// water is the number of what has the strength 0. A reading on the scale compares a lot with it, so that all readings are comparisons.
const water = api.MaxDyeLots

// strengths has those of all lots, and that of water.
type strengths [api.MaxDyeLots + 1]int

// against returns what the lot of a reading is compared with.
func (r Reading) against() int {
	if r.Kind == Scale {
		return water
	}
	return r.Other
}

// above returns how much stronger than the other one the lot of a reading is at most.
func (r Reading) above() int { return r.Value + r.Error }

// below returns how much weaker it is at most.
func (r Reading) below() int { return r.Error - r.Value }

// above returns how much stronger than water something in a range is at most.
func (r Range) above() int { return r.Hi }

// below returns how much weaker it is at most.
func (r Range) below() int { return -r.Lo }

// isTruth reports whether a list is a truth of valid works.
func (w Works) isTruth(list []int) bool {
	if len(list) != len(w.Lots) {
		return false
	}
	var all strengths
	for lot, n := range list {
		if !w.Lots[lot].has(n) {
			return false
		}
		all[lot] = n
	}
	return lists.Each(w.Readings, func(r Reading) bool {
		more := all[r.Lot] - all[r.against()]
		return more <= r.above() && -more <= r.below()
	})
}
