package bill_test

import (
	"math/rand/v2"
	"slices"

	"nochez/bill"
)

// The reference goes by the words of the definitions, and calls nothing of the package: it tries all presentations, all truths of letters that have few, all sets of clauses, and all sets of presentations.

func to(low, high int) bill.Range { return bill.Range{Lo: low, Hi: high} }

func list(l ...int) []int { return l }

func row(l ...bill.Range) []bill.Range { return l }

func in(r bill.Range, n int) bool { return r.Lo <= n && n <= r.Hi }

func clause(kind, party, least, most, first, last int) bill.Clause {
	return bill.Clause{Kind: kind, Party: party, Quantity: to(least, most), Dated: to(first, last)}
}

func paper(kind, party, mark, quantity, dated, low, high int) bill.Paper {
	return bill.Paper{Kind: kind, Party: party, Mark: mark, Quantity: quantity, Dated: dated, Arrives: to(low, high)}
}

// lading is the letter of the chapter's examples, fifth the paper that its last example adds.
func lading() bill.Letter {
	return bill.Letter{
		Clauses: []bill.Clause{clause(1, bill.Any, 90, 110, 10, 20), clause(2, 3, 0, 1000, 0, 30)},
		Papers:  []bill.Paper{paper(1, 5, 7, 100, 15, 30, 40), paper(2, 3, 7, 100, 14, 25, 28), paper(2, 3, 8, 50, 12, 20, 22), paper(1, 5, 8, 95, 21, 22, 30)},
		Expiry:  40,
	}
}

func fifth() bill.Paper { return paper(1, 5, 8, 95, 20, 22, 30) }

// clone copies a letter, so that it can be changed.
func clone(l bill.Letter) bill.Letter {
	l.Clauses, l.Papers = slices.Clone(l.Clauses), slices.Clone(l.Papers)
	return l
}

// with returns a letter that is changed.
func with(l bill.Letter, change func(l *bill.Letter)) bill.Letter {
	l = clone(l)
	change(&l)
	return l
}

// more returns a letter with more papers.
func more(l bill.Letter, papers ...bill.Paper) bill.Letter {
	return with(l, func(l *bill.Letter) { l.Papers = append(l.Papers, papers...) })
}

// expires returns a letter with another Expiry.
func expires(l bill.Letter, day int) bill.Letter {
	l.Expiry = day
	return l
}

// withoutPaper returns a letter without one of its papers.
func withoutPaper(l bill.Letter, i int) bill.Letter {
	return with(l, func(l *bill.Letter) { l.Papers = slices.Delete(l.Papers, i, i+1) })
}

// without leaves clauses out of a list.
func without(clauses []bill.Clause, set []int) (kept []bill.Clause) {
	for i, c := range clauses {
		if !slices.Contains(set, i) {
			kept = append(kept, c)
		}
	}
	return kept
}

// agrees reports whether a paper meets a clause.
func agrees(c bill.Clause, p bill.Paper) bool {
	if c.Kind != p.Kind || !in(c.Quantity, p.Quantity) || !in(c.Dated, p.Dated) {
		return false
	}
	return c.Party == -1 || c.Party == p.Party
}

// given returns all lists of different papers with the same mark, one for each clause, that meet their clauses, in lexicographic order.
func given(clauses []bill.Clause, papers []bill.Paper) (all [][]int) {
	var extend func(l []int)
	extend = func(l []int) {
		if len(l) == len(clauses) {
			all = append(all, slices.Clone(l))
			return
		}
		for i, p := range papers {
			if !slices.Contains(l, i) && agrees(clauses[len(l)], p) && (len(l) == 0 || papers[l[0]].Mark == p.Mark) {
				extend(append(l, i))
			}
		}
	}
	extend(nil)
	return all
}

// presentations returns all presentations, in lexicographic order.
func presentations(l bill.Letter) [][]int { return given(l.Clauses, l.Papers) }

// dayOf returns the day of a presentation in a truth.
func dayOf(presentation, truth []int) int {
	day := truth[presentation[0]]
	for _, i := range presentation {
		day = max(day, truth[i])
	}
	return day
}

// firstDay returns the first day of presentations in a truth, and the first presentation that has it.
func firstDay(all [][]int, truth []int) (day int, first []int) {
	for _, presentation := range all {
		if d := dayOf(presentation, truth); first == nil || d < day {
			day, first = d, presentation
		}
	}
	return day, first
}

// ends returns the truths in which each paper arrives as early, and as late, as it may.
func ends(l bill.Letter) (early, late []int) {
	for _, p := range l.Papers {
		early, late = append(early, p.Arrives.Lo), append(late, p.Arrives.Hi)
	}
	return early, late
}

// everyTruth calls a function with each truth, which is changed afterwards.
func everyTruth(l bill.Letter, call func(truth []int)) {
	var extend func(truth []int)
	extend = func(truth []int) {
		if len(truth) == len(l.Papers) {
			call(truth)
			return
		}
		p := l.Papers[len(truth)]
		for day := p.Arrives.Lo; day <= p.Arrives.Hi; day++ {
			extend(append(truth, day))
		}
	}
	extend(nil)
}

// bounds returns the bounds of the first day in all truths of a letter that has a presentation.
func bounds(l bill.Letter) bill.Range {
	all := presentations(l)
	var days []int
	everyTruth(l, func(truth []int) {
		day, _ := firstDay(all, truth)
		days = append(days, day)
	})
	return to(slices.Min(days), slices.Max(days))
}

// sure reports whether there is a presentation that surely comes until the Expiry, by its papers alone.
func sure(l bill.Letter) bool {
	_, late := ends(l)
	return slices.ContainsFunc(presentations(l), func(x []int) bool { return dayOf(x, late) <= l.Expiry })
}

// timely returns the papers that are in time.
func timely(l bill.Letter) (papers []bill.Paper) {
	for _, p := range l.Papers {
		if p.Arrives.Hi <= l.Expiry {
			papers = append(papers, p)
		}
	}
	return papers
}

// sets has the sets of the indexes below a number, shorter ones first, and those of the same length in lexicographic order.
func sets(length int) (all [][]int) {
	for bits := range 1 << length {
		var set []int
		for i := range length {
			if bits>>i&1 == 1 {
				set = append(set, i)
			}
		}
		all = append(all, set)
	}
	slices.SortFunc(all, func(a, b []int) int {
		if len(a) != len(b) {
			return len(a) - len(b)
		}
		return slices.Compare(a, b)
	})
	return all
}

// failing returns the failing clauses. The list for no clauses is there, too.
func failing(l bill.Letter) []int {
	for _, set := range sets(len(l.Clauses)) {
		if len(given(without(l.Clauses, set), timely(l))) > 0 {
			return set
		}
	}
	panic("all clauses can always be waived together")
}

// critical returns the critical papers of a letter that surely pays.
func critical(l bill.Letter) (all []int) {
	for i := range l.Papers {
		if !sure(withoutPaper(l, i)) {
			all = append(all, i)
		}
	}
	return all
}

// times returns how many presentations of papers that are in time can be chosen, no paper twice.
func times(l bill.Letter) int {
	var papers []int // those of a presentation, as bits
	for _, presentation := range given(l.Clauses, timely(l)) {
		bits := 0
		for _, i := range presentation {
			bits |= 1 << i
		}
		papers = append(papers, bits)
	}
	slices.Sort(papers)
	papers = slices.Compact(papers)
	known := map[int]int{}
	var most func(used int) int
	most = func(used int) int {
		n, is := known[used]
		if is {
			return n
		}
		for _, bits := range papers {
			if used&bits == 0 {
				n = max(n, 1+most(used|bits))
			}
		}
		known[used] = n
		return n
	}
	return most(0)
}

// size bounds the letters that are drawn: codes are how many kinds, parties and marks there are, wide is how wide Arrives may be.
type size struct{ clauses, papers, kinds, parties, marks, days, wide int }

var (
	// small letters have so few truths that all of them can be tried.
	small = size{clauses: 3, papers: 6, kinds: 2, parties: 2, marks: 2, days: 10, wide: 2}
	// plain letters have few clauses, and many papers that meet them.
	plain = size{clauses: 3, papers: 10, kinds: 1, parties: 2, marks: 2, days: 12, wide: 4}
	// busy letters have clauses that want each other's papers.
	busy = size{clauses: 6, papers: 10, kinds: 2, parties: 3, marks: 1, days: 40, wide: 30}
	// large letters reach the limits.
	large = size{clauses: 6, papers: 10, kinds: 10, parties: 10, marks: 10, days: 1000, wide: 1000}
)

func sizes() []size { return []size{small, plain, busy, large} }

func chance(seed uint64) *rand.Rand { return rand.New(rand.NewPCG(seed, 11)) }

func between(r *rand.Rand, low, high int) int { return low + r.IntN(high-low+1) }

// within draws a range within another one that is not wider than a number.
func within(r *rand.Rand, outer bill.Range, wide int) bill.Range {
	low := between(r, outer.Lo, outer.Hi)
	return to(low, min(outer.Hi, low+r.IntN(wide+1)))
}

// drawClause draws a clause; often it asks for no quantity, or no day.
func drawClause(r *rand.Rand, z size) bill.Clause {
	c := bill.Clause{Kind: r.IntN(z.kinds), Party: bill.Any, Quantity: to(0, 1000), Dated: to(0, 1000)}
	if r.IntN(2) == 0 {
		c.Party = r.IntN(z.parties)
	}
	if r.IntN(3) == 0 {
		c.Quantity = within(r, to(0, 1000), 800)
	}
	if r.IntN(3) == 0 {
		c.Dated = within(r, to(0, 1000), 800)
	}
	return c
}

// drawPaper draws a paper; most of them meet one of the clauses.
func drawPaper(r *rand.Rand, z size, clauses []bill.Clause) bill.Paper {
	p := bill.Paper{Kind: r.IntN(z.kinds), Party: r.IntN(z.parties), Mark: r.IntN(z.marks), Quantity: r.IntN(1001), Dated: r.IntN(1001)}
	if c := clauses[r.IntN(len(clauses))]; r.IntN(5) > 0 {
		p.Kind, p.Quantity, p.Dated = c.Kind, between(r, c.Quantity.Lo, c.Quantity.Hi), between(r, c.Dated.Lo, c.Dated.Hi)
		if c.Party != bill.Any {
			p.Party = c.Party
		}
	}
	p.Arrives = within(r, to(0, z.days), z.wide)
	return p
}

// draw draws a valid letter; often all its clauses are alike, and often there is a paper for each of them.
func draw(r *rand.Rand, z size) (l bill.Letter) {
	number := between(r, 1, z.clauses)
	alike := r.IntN(6) == 0
	for i := range number {
		c := drawClause(r, z)
		if alike && i > 0 {
			c = l.Clauses[0]
		}
		l.Clauses = append(l.Clauses, c)
	}
	papers := r.IntN(z.papers + 1)
	if r.IntN(2) == 0 {
		mark := r.IntN(z.marks)
		for i := range min(number, z.papers) {
			p := drawPaper(r, z, l.Clauses[i:i+1])
			p.Mark = mark
			l.Papers = append(l.Papers, p)
		}
	}
	for len(l.Papers) < papers {
		l.Papers = append(l.Papers, drawPaper(r, z, l.Clauses))
	}
	r.Shuffle(len(l.Papers), func(i, j int) { l.Papers[i], l.Papers[j] = l.Papers[j], l.Papers[i] })
	l.Expiry = r.IntN(z.days + 1)
	if r.IntN(2) == 0 {
		l.Expiry = z.days
	}
	return l
}

// drawTruth draws a truth.
func drawTruth(r *rand.Rand, l bill.Letter) (truth []int) {
	for _, p := range l.Papers {
		truth = append(truth, between(r, p.Arrives.Lo, p.Arrives.Hi))
	}
	return truth
}
