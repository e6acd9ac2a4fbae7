package crop

import (
	"slices"

	"nochez/api"
	"nochez/lists"
)

// changes has how a day changes the amount of a terrace: what is taken if it is picked, and to what it grows.
type changes struct {
	taken func(t Terrace, amount int) int
	grown func(t Terrace, amount, growth int) int
}

func ofDay() changes { return changes{taken: Terrace.taken, grown: Terrace.grown} }

func (t Terrace) taken(amount int) int { return max(0, min(amount-t.Left, t.Hand)) }

func (t Terrace) grown(amount, growth int) int { return min(amount+growth, t.Most) }

// amounts has the amount of each terrace in each weather. It is 0 for terraces and weathers that the season does not have.
type amounts [api.MaxCropWeathers][api.MaxCropTerraces]int

// morning is a day with the amounts before it: all that counts for what can still be taken.
type morning struct {
	day     int
	amounts amounts
}

// harvests has what has been taken in each weather.
type harvests [api.MaxCropWeathers]int

// with adds what has been taken between two amounts.
func (h harvests) with(before, left amounts) harvests {
	for weather, row := range before {
		for terrace, amount := range row {
			h[weather] += amount - left[weather][terrace]
		}
	}
	return h
}

// covers reports whether there is no weather in which the other harvest is greater.
func (h harvests) covers(other harvests) bool {
	for weather, harvest := range other {
		if harvest > h[weather] {
			return false
		}
	}
	return true
}

// worst returns the smallest harvest in all weathers of the season.
func (c *campaign) worst(h harvests) int { return lists.Least(h[0], h[1:len(c.Weathers)]...) }

// stand is how far the first lists of a plan have led.
type stand struct {
	morning
	harvests harvests
}

// begin returns how things stand before the first day.
func (c *campaign) begin() stand {
	var begin stand
	for weather := range len(c.Weathers) {
		for i, t := range c.Terraces {
			begin.amounts[weather][i] = t.First
		}
	}
	return begin
}

// pick returns what is left of amounts if the terraces of a list are picked.
func (c *campaign) pick(a amounts, list []int) amounts {
	for weather := range len(c.Weathers) {
		for _, terrace := range list {
			a[weather][terrace] -= c.changes.taken(c.Terraces[terrace], a[weather][terrace])
		}
	}
	return a
}

// rest returns how things stand after a day on which so much has been left: what is left grows.
func (c *campaign) rest(at stand, left amounts) stand {
	next := stand{morning: morning{day: at.day + 1}, harvests: at.harvests.with(at.amounts, left)}
	for weather := range len(c.Weathers) {
		for i, t := range c.Terraces {
			next.amounts[weather][i] = c.changes.grown(t, left[weather][i], c.Weathers[weather][at.day])
		}
	}
	return next
}

// after returns how things stand after the first lists of a plan.
func (c *campaign) after(begun Plan) stand {
	at := c.begin()
	for _, list := range begun {
		at = c.rest(at, c.pick(at.amounts, list))
	}
	return at
}

// play returns what is taken on each day in a weather, and the amounts after the last day.
func (c *campaign) play(p Plan, weather int) (taken [][]int, left []int) {
	at := c.begin()
	for _, list := range p {
		before, rest := at.amounts[weather], c.pick(at.amounts, list)
		var row []int
		for _, terrace := range list {
			row = append(row, before[terrace]-rest[weather][terrace])
		}
		taken = append(taken, row)
		at = c.rest(at, rest)
	}
	return taken, slices.Clone(at.amounts[weather][:len(c.Terraces)])
}
