package crop_test

import (
	"math/rand/v2"
	"slices"

	"nochez/crop"
	"nochez/grow"
)

// The reference tries everything out, by the words of the definitions, and calls nothing of the package.

func list(l ...int) []int { return l }

func plan(l ...[]int) [][]int { return l }

func terrace(first, most, left, hand int) crop.Terrace {
	return crop.Terrace{First: first, Most: most, Left: left, Hand: hand}
}

func terraces(l ...crop.Terrace) []crop.Terrace { return l }

// two is the season of the chapter's examples.
func two() crop.Season {
	return crop.Season{
		Terraces: terraces(terrace(10, 20, 2, 8), terrace(6, 12, 0, 12)),
		Days:     3, Pickers: 1, Weathers: plan(list(4, 4, 4), list(1, 6, 0)),
	}
}

// with has another number of pickers.
func with(s crop.Season, pickers int) crop.Season {
	s.Pickers = pickers
	return s
}

// still has terraces that do not grow.
func still(days, pickers int, l ...crop.Terrace) crop.Season {
	return crop.Season{Terraces: l, Days: days, Pickers: pickers, Weathers: plan(make([]int, days))}
}

// clone copies a season, so that it can be changed.
func clone(s crop.Season) crop.Season {
	s.Terraces, s.Weathers = slices.Clone(s.Terraces), slices.Clone(s.Weathers)
	for i, weather := range s.Weathers {
		s.Weathers[i] = slices.Clone(weather)
	}
	return s
}

func same(a, b [][]int) bool { return slices.EqualFunc(a, b, slices.Equal) }

// played plays a plan, or its first lists, in a weather.
func played(s crop.Season, p [][]int, weather int) (taken [][]int, left []int) {
	for _, t := range s.Terraces {
		left = append(left, t.First)
	}
	for day, picked := range p {
		var row []int
		for _, i := range picked {
			t, amount := s.Terraces[i], 0
			if left[i] > t.Left {
				amount = left[i] - t.Left
			}
			if amount > t.Hand {
				amount = t.Hand
			}
			row = append(row, amount)
			left[i] -= amount
		}
		taken = append(taken, row)
		for i, t := range s.Terraces {
			left[i] += s.Weathers[weather][day]
			if left[i] > t.Most {
				left[i] = t.Most
			}
		}
	}
	return taken, left
}

// harvest returns the harvest of a plan in a weather.
func harvest(s crop.Season, p [][]int, weather int) (sum int) {
	taken, _ := played(s, p, weather)
	for _, row := range taken {
		for _, amount := range row {
			sum += amount
		}
	}
	return sum
}

// worst returns the worst harvest of a plan, and the first weather that has it.
func worst(s crop.Season, p [][]int) (least, weather int) {
	for w := range s.Weathers {
		if n := harvest(s, p, w); w == 0 || n < least {
			least, weather = n, w
		}
	}
	return least, weather
}

// compare compares two lists of a day.
func compare(a, b []int) int {
	if len(a) != len(b) {
		return len(a) - len(b)
	}
	return slices.Compare(a, b)
}

// comparePlans compares two plans with as many days.
func comparePlans(a, b [][]int) int {
	for day := range a {
		if n := compare(a[day], b[day]); n != 0 {
			return n
		}
	}
	return 0
}

// days has all lists that a day can have, in no special order.
func days(s crop.Season) (all [][]int) {
	for bits := range 1 << len(s.Terraces) {
		var l []int
		for i := range s.Terraces {
			if bits>>i&1 == 1 {
				l = append(l, i)
			}
		}
		if len(l) <= s.Pickers {
			all = append(all, l)
		}
	}
	return all
}

// plans has all plans that begin with some lists, in no special order.
func plans(s crop.Season, begun [][]int) (all [][][]int) {
	all = [][][]int{begun}
	for len(all[0]) < s.Days {
		var longer [][][]int
		for _, p := range all {
			for _, l := range days(s) {
				longer = append(longer, append(slices.Clone(p), l))
			}
		}
		all = longer
	}
	return all
}

// best returns the best plan of those that begin with some lists, and its worst harvest, by comparing all of them.
func best(s crop.Season, begun [][]int) (found [][]int, most int) {
	most = -1
	for _, p := range plans(s, begun) {
		n, _ := worst(s, p)
		if n > most || n == most && comparePlans(p, found) < 0 {
			found, most = p, n
		}
	}
	return found, most
}

func chance(seed uint64) *rand.Rand { return rand.New(rand.NewPCG(seed, 4)) }

func between(r *rand.Rand, low, high int) int { return low + r.IntN(high-low+1) }

// draw draws a valid season with at most so many days. Small numbers make many plans equally good.
func draw(r *rand.Rand, most int) (s crop.Season) {
	s.Days, s.Pickers = between(r, 1, most), r.IntN(3)
	amount, growth := []int{3, 12, 60}[r.IntN(3)], []int{1, 5, 20}[r.IntN(3)]
	for range between(r, 1, 3) {
		t := crop.Terrace{Most: between(r, amount/6, amount)}
		t.First, t.Left, t.Hand = r.IntN(t.Most+1), r.IntN(t.Most/2+1), r.IntN(amount+1)
		s.Terraces = append(s.Terraces, t)
	}
	for range between(r, 1, 4) {
		var weather []int
		for range s.Days {
			weather = append(weather, r.IntN(growth+1))
		}
		s.Weathers = append(s.Weathers, weather)
	}
	return s
}

// drawBegun draws the first lists of a plan.
func drawBegun(r *rand.Rand, s crop.Season, length int) (begun [][]int) {
	all := days(s)
	for range length {
		begun = append(begun, all[r.IntN(len(all))])
	}
	return begun
}

func drawPlan(r *rand.Rand, s crop.Season) [][]int { return drawBegun(r, s, s.Days) }

// seasons calls a function with seasons of all sizes, and a plan for each one.
func seasons(seed uint64, call func(r *rand.Rand, s crop.Season, p [][]int)) {
	r := chance(seed)
	for _, most := range list(2, 3, 5) {
		for range 200 {
			s := draw(r, most)
			call(r, s, drawPlan(r, s))
		}
	}
}

// brood is a field whose insects need so much warmth.
func brood(needs, number int, days ...grow.Day) crop.Field {
	return crop.Field{
		Brood:  grow.Brood{Needs: list(needs), Weak: list(50, 100), Number: grow.Range{Lo: 40, Hi: 50}, Days: days},
		Number: number,
	}
}

func day(low, high, fewest, most int) grow.Day {
	return grow.Day{Warmth: grow.Range{Lo: low, Hi: high}, Loss: grow.Range{Lo: fewest, Hi: most}}
}

// seen is an observation of the stage and the number on the evening of a day.
func seen(day, low, high, fewest, most int) grow.Seen {
	return grow.Seen{Day: day, Stage: grow.Range{Lo: low, Hi: high}, Alive: grow.Range{Lo: fewest, Hi: most}}
}

// drawField draws a valid field; its observations may contradict each other.
func drawField(r *rand.Rand) (f crop.Field) {
	f = brood(between(r, 1, 12), r.IntN(51))
	for range between(r, 1, 4) {
		low, least := r.IntN(6), r.IntN(100)
		f.Brood.Days = append(f.Brood.Days, day(low, low+r.IntN(4), least, least+r.IntN(100)))
	}
	for range r.IntN(3) {
		low, least := r.IntN(2), r.IntN(40)
		f.Seen = append(f.Seen, seen(r.IntN(len(f.Brood.Days)), low, between(r, low, 1), least, least+30))
	}
	return f
}
