package grow

import "slices"

// ripens reports whether a day is the ripe day of some truth that agrees with all observations: the last stage is seen on its evening, and not yet on the evening before it.
func (r *rearing) ripens(seen []Seen, day int) bool {
	last := len(r.Needs)
	more := append(slices.Clone(seen), Seen{Day: day, Stage: Range{Lo: last, Hi: last}, Alive: living()})
	if day > 0 {
		more = append(more, Seen{Day: day - 1, Stage: Range{Lo: 0, Hi: last - 1}, Alive: living()})
	}
	return r.possible(more)
}

// ripeDays returns the range of the ripe days of the truths that agree with all observations, if there are any.
func (r *rearing) ripeDays(seen []Seen) (days Range, some bool) {
	for day := range len(r.Days) {
		if !r.ripens(seen, day) {
			continue
		}
		if !some {
			days, some = Range{Lo: day, Hi: day}, true
		}
		days = days.with(day)
	}
	return days, some
}

// surelyRipe reports whether the insects are in the last stage in all states of an evening.
func (r *rearing) surelyRipe(v *evening) bool {
	for sum := range v.sums() {
		if r.stage(sum) < len(r.Needs) {
			return false
		}
	}
	return true
}

// surelyAlive reports whether at least so many insects are alive in all states of an evening.
func (v *evening) surelyAlive(number int) bool {
	for s := range v.states() {
		if s.number < number {
			return false
		}
	}
	return true
}

// safeDay returns the first evening of a course on which the insects are surely ripe, and at least so many alive, if there is one.
func (r *rearing) safeDay(c *course, number int) (int, bool) {
	for day := range len(r.Days) {
		if r.surelyRipe(&c[day]) && c[day].surelyAlive(number) {
			return day, true
		}
	}
	return 0, false
}
