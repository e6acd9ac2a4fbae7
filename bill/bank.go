package bill

import (
	"iter"
	"slices"

	"nochez/api"
	"nochez/lists"
)

// ends has both ends of the days on which a paper may arrive.
type ends struct{ early, late func(p Paper) int }

func bothEnds() ends { return ends{early: Paper.earliest, late: Paper.latest} }

func (p Paper) earliest() int { return p.Arrives.Lo }

func (p Paper) latest() int { return p.Arrives.Hi }

// need is a clause that has to be met by a paper with a mark.
type need struct{ clause, mark int }

// bank is a letter at work.
type bank struct {
	Letter
	arrives ends
	all     []int          // the clauses
	offers  map[need][]int // the papers that meet them, rising
}

// open returns a valid letter at work, or its error.
func open(l Letter) (*bank, api.Errno) {
	if e := l.check(); e != api.OK {
		return nil, e
	}
	b := bank{Letter: l, arrives: bothEnds(), offers: map[need][]int{}}
	for clause, c := range l.Clauses {
		b.all = append(b.all, clause)
		for paper := range l.meeting(c) {
			by := need{clause: clause, mark: l.Papers[paper].Mark}
			b.offers[by] = append(b.offers[by], paper)
		}
	}
	return &b, api.OK
}

// nobody is the user of a paper that no clause uses.
const nobody = -1

// users has for each paper the clause that uses it.
type users [api.MaxBillPapers]int

func noUsers() users {
	var u users
	for paper := range u {
		u[paper] = nobody
	}
	return u
}

// canMeet reports whether there are different papers with a mark that fit, one for each clause of a list. A clause may be in it several times.
func (b *bank) canMeet(clauses []int, mark int, fits func(paper int) bool) bool {
	user := noUsers()
	var tried [api.MaxBillPapers]bool
	// A clause that finds no paper that is free gets one of another clause, if this one finds another paper.
	var find func(clause int) bool
	find = func(clause int) bool {
		for _, paper := range b.offers[need{clause: clause, mark: mark}] {
			if tried[paper] || !fits(paper) {
				continue
			}
			tried[paper] = true
			if user[paper] == nobody || find(user[paper]) {
				user[paper] = clause
				return true
			}
		}
		return false
	}
	for _, clause := range clauses {
		clear(tried[:])
		if !find(clause) {
			return false
		}
	}
	return true
}

// marksFor yields the marks of which different papers that fit can meet clauses.
func (b *bank) marksFor(clauses []int, fits func(paper int) bool) iter.Seq[int] {
	return func(yield func(mark int) bool) {
		for mark := range marks {
			if b.canMeet(clauses, mark, fits) && !yield(mark) {
				return
			}
		}
	}
}

// canPay reports whether different papers with the same mark that fit can meet clauses.
func (b *bank) canPay(clauses []int, fits func(paper int) bool) bool {
	for range b.marksFor(clauses, fits) {
		return true
	}
	return false
}

// canWaive reports whether clauses can be waived together.
func (b *bank) canWaive(clauses []int) bool {
	return b.canPay(lists.Without(b.all, clauses), b.isInTime)
}

// isCritical reports whether the letter does not surely pay without a paper.
func (b *bank) isCritical(paper int) bool {
	return !b.canPay(b.all, func(other int) bool { return other != paper && b.isInTime(other) })
}

// times returns how many presentations there are of papers with a mark that are in time, no paper twice. If there are so many different papers for each clause, each presentation can take one of them.
func (b *bank) times(mark int) int {
	times := 0
	for b.canMeet(slices.Repeat(b.all, times+1), mark, b.isInTime) {
		times++
	}
	return times
}

// first returns the first presentation of papers with a mark that fit; there has to be one. Each clause takes the first paper that leaves papers for the clauses after it.
func (b *bank) first(mark int, fits func(paper int) bool) []int {
	var taken []int
	isFree := func(paper int) bool { return fits(paper) && !slices.Contains(taken, paper) }
	for clause := range b.all {
		for _, paper := range b.offers[need{clause: clause, mark: mark}] {
			if !isFree(paper) {
				continue
			}
			taken = append(taken, paper)
			if b.canMeet(b.all[clause+1:], mark, isFree) {
				break
			}
			taken = taken[:clause]
		}
	}
	return taken
}

// firstOfAll returns the first presentation of papers that fit, or nil if there is none.
func (b *bank) firstOfAll(fits func(paper int) bool) []int {
	var first []int
	for mark := range b.marksFor(b.all, fits) {
		papers := b.first(mark, fits)
		if first == nil || slices.Compare(papers, first) < 0 {
			first = papers
		}
	}
	return first
}

// soonest returns the first presentation whose day is the first day, if each paper arrives on an end; nil if there is no presentation.
func (b *bank) soonest(end func(p Paper) int) []int {
	var days []int
	for _, p := range b.Papers {
		days = append(days, end(p))
	}
	for _, day := range slices.Sorted(slices.Values(days)) {
		papers := b.firstOfAll(func(paper int) bool { return days[paper] <= day })
		if papers != nil {
			return papers
		}
	}
	return nil
}

// dayOf returns the day of a presentation, if each paper arrives on an end.
func (b *bank) dayOf(papers []int, end func(p Paper) int) int {
	var days []int
	for _, paper := range papers {
		days = append(days, end(b.Papers[paper]))
	}
	return lists.Most(0, days...)
}

// firstDay returns the bounds of the first day, and whether there is a presentation. No day of a presentation is earlier if a paper arrives later, so the ends of all papers lead to the ends.
func (b *bank) firstDay() (day Range, can bool) {
	early, late := b.soonest(b.arrives.early), b.soonest(b.arrives.late)
	return Range{Lo: b.dayOf(early, b.arrives.early), Hi: b.dayOf(late, b.arrives.late)}, early != nil
}
