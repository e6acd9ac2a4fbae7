package grow

import (
	"iter"

	"nochez/api"
)

// state is a sum of warmth with a number of living insects: all of an evening that counts for the days after it.
type state struct{ sum, number int }

func (s state) alive() int { return s.number }

// evening has, for each sum of warmth, the numbers that are possible with it.
type evening [api.MaxGrowSum + 1]numbers

func (v *evening) has(s state) bool { return v[s.sum][s.number] }

// sums yields the sums of warmth with which some number is possible.
func (v *evening) sums() iter.Seq[int] {
	return func(yield func(int) bool) {
		for sum := range v {
			if v[sum] != (numbers{}) && !yield(sum) {
				return
			}
		}
	}
}

// states yields the states that are possible.
func (v *evening) states() iter.Seq[state] {
	return func(yield func(state) bool) {
		for sum := range v.sums() {
			for number, can := range v[sum] {
				if can && !yield(state{sum, number}) {
					return
				}
			}
		}
	}
}

// course has the states that are possible on each evening.
type course [api.MaxGrowDays]evening

// stageOf returns the stage of the insects in a state.
func (r *rearing) stageOf(s state) int { return r.stage(s.sum) }

// start returns the states before the first day.
func (r *rearing) start() *evening {
	var start evening
	for number := range r.Number.each() {
		start[0][number] = true
	}
	return &start
}

// last returns the last evening of a course.
func (r *rearing) last(c *course) *evening { return &c[len(r.Days)-1] }

// after returns the states that a day can make of some state of the evening before it.
func (r *rearing) after(day int, before *evening) evening {
	var morning, after evening
	for sum := range before.sums() {
		for warmth := range r.Days[day].Warmth.each() {
			morning[sum+warmth].add(&before[sum])
		}
	}
	for sum := range morning.sums() {
		after[sum] = r.left[day][r.stage(sum)].after(&morning[sum])
	}
	return after
}

// before returns the states of which a day can make some state of its evening.
func (r *rearing) before(day int, after *evening) evening {
	var before evening
	for sum := range after.sums() {
		morning := r.left[day][r.stage(sum)].before(&after[sum])
		for warmth := range r.Days[day].Warmth.each() {
			if warmth <= sum {
				before[sum-warmth].add(&morning)
			}
		}
	}
	return before
}

// leaveOut leaves out the states of an evening that an observation rules out.
func (r *rearing) leaveOut(v *evening, x Seen) {
	for s := range v.states() {
		if !x.Stage.has(r.stageOf(s)) || !x.Alive.has(s.number) {
			v[s.sum][s.number] = false
		}
	}
}

// reached returns the states to which the days lead, as far as the observations of each evening, and of those before it, allow it.
func (r *rearing) reached(seen []Seen) *course {
	var c course
	before := r.start()
	for day := range len(r.Days) {
		c[day] = r.after(day, before)
		for _, x := range seen {
			if x.Day == day {
				r.leaveOut(&c[day], x)
			}
		}
		before = &c[day]
	}
	return &c
}

// possible reports whether some truth agrees with all observations.
func (r *rearing) possible(seen []Seen) bool { return *r.last(r.reached(seen)) != (evening{}) }

// course returns the states of all truths that agree with all observations, if there are any.
func (r *rearing) course(seen []Seen) (*course, bool) {
	c := r.reached(seen)
	if *r.last(c) == (evening{}) {
		return nil, false
	}
	for day := len(r.Days) - 1; day > 0; day-- {
		before := r.before(day, &c[day])
		for sum := range c[day-1] {
			c[day-1][sum].keep(&before[sum])
		}
	}
	return c, true
}

// openCourse returns a brood at work with its course, or their error.
func openCourse(b Brood, seen []Seen) (*rearing, *course, api.Errno) {
	r, e := openSeen(b, seen)
	if e != api.OK {
		return nil, nil, e
	}
	c, agree := r.course(seen)
	if !agree {
		return nil, nil, api.ErrFail
	}
	return r, c, api.OK
}

// bounds returns, for each evening of a course, the range of something that all its states have. It is a number that insects alive can have.
func (r *rearing) bounds(c *course, of func(state) int) []Range {
	bounds := make([]Range, len(r.Days))
	for day := range bounds {
		bounds[day] = Range{Lo: living().Hi, Hi: living().Lo}
		for s := range c[day].states() {
			bounds[day] = bounds[day].with(of(s))
		}
	}
	return bounds
}
