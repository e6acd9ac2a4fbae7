package grow

import (
	"nochez/api"
	"nochez/lists"
)

// plays reports whether a truth can be played: it has a number for each day, and each one is in the range that is asked for.
func (r *rearing) plays(t Truth) bool {
	if len(t.Warmth) != len(r.Days) || len(t.Dead) != len(r.Days) || !r.Number.has(t.Number) {
		return false
	}
	for day := range len(r.Days) {
		if !r.Days[day].Warmth.has(t.Warmth[day]) {
			return false
		}
	}
	return lists.Each(t.Dead, living().has)
}

// play returns the stage and the number of each evening, and whether each number of dead can be.
func (r *rearing) play(t Truth) (stages, alive []int, can bool) {
	s := state{number: t.Number}
	can = true
	for day := range len(r.Days) {
		s.sum += t.Warmth[day]
		stage, left := r.stageOf(s), s.number-t.Dead[day]
		// The number is below 0 only after dead that cannot be.
		can = can && r.left[day][stage][s.number].has(left)
		s.number = left
		stages, alive = append(stages, stage), append(alive, left)
	}
	return stages, alive, can
}

// agrees reports whether a truth that can be played is one of the brood, and agrees with all observations.
func (r *rearing) agrees(t Truth, seen []Seen) bool {
	stages, alive, can := r.play(t)
	return can && lists.Each(seen, func(x Seen) bool {
		return x.Stage.has(stages[x.Day]) && x.Alive.has(alive[x.Day])
	})
}

// origins returns, for each state of the evening of a day, a state of the evening before it of which the day can make it.
func (r *rearing) origins(day int, before, after *evening) map[state]state {
	from := map[state]state{}
states:
	for s := range after.states() {
		left := &r.left[day][r.stageOf(s)]
		for warmth := range r.Days[day].Warmth.each() {
			for number := s.number; warmth <= s.sum && number <= living().Hi; number++ {
				origin := state{s.sum - warmth, number}
				if before.has(origin) && left[number].has(s.number) {
					from[s] = origin
					continue states
				}
			}
		}
	}
	return from
}

// truth returns a truth that agrees with all observations, which must not contradict each other.
func (r *rearing) truth(seen []Seen) Truth {
	c := r.reached(seen)
	var from [api.MaxGrowDays]map[state]state
	before := r.start()
	for day := range len(r.Days) {
		from[day] = r.origins(day, before, &c[day])
		before = &c[day]
	}
	t := Truth{Warmth: make([]int, len(r.Days)), Dead: make([]int, len(r.Days))}
	var goBack func(day int, s state)
	goBack = func(day int, s state) {
		if day < 0 {
			t.Number = s.number
			return
		}
		origin := from[day][s]
		t.Warmth[day], t.Dead[day] = s.sum-origin.sum, origin.number-s.number
		goBack(day-1, origin)
	}
	// The way back can begin at any state of the last evening: each one that is reached has an origin.
	var end state
	for s := range before.states() {
		end = s
	}
	goBack(len(r.Days)-1, end)
	return t
}
