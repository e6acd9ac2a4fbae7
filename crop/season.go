package crop

import (
	"iter"

	"nochez/api"
	"nochez/lists"
)

// upTo reports whether a number is from 0 to another one.
func upTo(n, most int) bool { return n >= 0 && n <= most }

func (t Terrace) valid() bool {
	return upTo(t.Most, api.MaxCropAmount) && upTo(t.First, t.Most) && upTo(t.Left, t.Most) && upTo(t.Hand, api.MaxCropAmount)
}

// canGrow reports whether a terrace can grow by so much on a day.
func canGrow(growth int) bool { return upTo(growth, api.MaxCropGrowth) }

// check returns the error of a season, or OK.
func (s Season) check() api.Errno {
	switch {
	case len(s.Terraces) > api.MaxCropTerraces, s.Days > api.MaxCropDays, len(s.Weathers) > api.MaxCropWeathers:
		return api.ErrLimit
	case len(s.Terraces) == 0, s.Days < 1, len(s.Weathers) == 0, !upTo(s.Pickers, api.MaxCropPickers):
		return api.ErrArg
	case !lists.Each(s.Terraces, Terrace.valid), !lists.Each(s.Weathers, s.canHave):
		return api.ErrArg
	}
	return api.OK
}

// canHave reports whether a weather of the season is valid.
func (s Season) canHave(weather []int) bool {
	return len(weather) == s.Days && lists.Each(weather, canGrow)
}

// has reports whether there is such a terrace.
func (s Season) has(terrace int) bool { return terrace >= 0 && terrace < len(s.Terraces) }

// canPick reports whether a list of a day is valid.
func (s Season) canPick(list []int) bool {
	return len(list) <= s.Pickers && lists.Each(list, s.has) && lists.Rises(list)
}

// campaign is a season at work.
type campaign struct {
	Season
	changes changes
}

// open returns a valid season as a season at work, or its error.
func open(s Season) (*campaign, api.Errno) {
	if e := s.check(); e != api.OK {
		return nil, e
	}
	return &campaign{Season: s, changes: ofDay()}, api.OK
}

// openBegun returns a season at work to which the first lists of a plan belong, or their error.
func openBegun(s Season, begun Plan) (*campaign, api.Errno) {
	c, e := open(s)
	if e != api.OK {
		return nil, e
	}
	if len(begun) > c.Days || !lists.Each(begun, c.canPick) {
		return nil, api.ErrRange
	}
	return c, api.OK
}

// openPlan returns a season at work to which a plan belongs, or their error.
func openPlan(s Season, p Plan) (*campaign, api.Errno) {
	c, e := openBegun(s, p)
	if e == api.OK && len(p) < c.Days {
		return nil, api.ErrRange
	}
	return c, e
}

// picks yields the lists that a day can have, from the smallest one on, each in memory of its own.
func (c *campaign) picks() iter.Seq[[]int] {
	return func(yield func([]int) bool) {
		for size := range c.Pickers + 1 {
			for list := range lists.Choices(len(c.Terraces), size) {
				if !yield(list) {
					return
				}
			}
		}
	}
}
