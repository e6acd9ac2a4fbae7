package grow

import "nochez/api"

// fewest returns how many of some insects die at least on the day, in a stage that is so weak.
func (d Day) fewest(insects, weak int) int { return insects * d.Loss.Lo * weak / whole }

// most returns how many of some insects die at most on the day, in a stage that is so weak.
func (d Day) most(insects, weak int) int { return (insects*d.Loss.Hi*weak + whole - 1) / whole }

// dead has both ends of the dead.
type dead struct {
	fewest, most func(d Day, insects, weak int) int
}

func bothEnds() dead { return dead{fewest: Day.fewest, most: Day.most} }

// leavings has, for each number of insects on a morning, the range of how many of them are left on the evening. Neither end is lower for one insect more, since at most one of one insect dies.
type leavings [api.MaxGrowNumber + 1]Range

// leaves returns what the day leaves in a stage that is so weak.
func (d Day) leaves(weak int) leavings {
	var l leavings
	ends := bothEnds()
	for insects := range l {
		l[insects] = Range{Lo: insects - ends.most(d, insects, weak), Hi: insects - ends.fewest(d, insects, weak)}
	}
	return l
}

// numbers tells of each number of living insects whether it is possible.
type numbers [api.MaxGrowNumber + 1]bool

// add makes the numbers possible that other ones are.
func (n *numbers) add(other *numbers) {
	for number, can := range other {
		n[number] = n[number] || can
	}
}

// keep leaves only those numbers possible that other ones are, too.
func (n *numbers) keep(other *numbers) {
	for number, can := range other {
		n[number] = n[number] && can
	}
}

// after returns the numbers that can be left of some number of a morning.
func (l *leavings) after(morning *numbers) numbers {
	var after numbers
	next := 0
	for insects, can := range morning {
		if !can {
			continue
		}
		// Since the ends do not fall, all that is below next is either in after already, or below this lower end.
		for left := max(next, l[insects].Lo); left <= l[insects].Hi; left++ {
			after[left] = true
		}
		next = l[insects].Hi + 1
	}
	return after
}

// before returns the numbers of which some number of an evening can be left.
func (l *leavings) before(evening *numbers) numbers {
	var before numbers
	next := 0
	for insects, left := range l {
		// Since the ends do not fall, all that is below next is either not of the evening, or below this lower end.
		next = max(next, left.Lo)
		for next <= left.Hi && !evening[next] {
			next++
		}
		before[insects] = next <= left.Hi
	}
	return before
}
