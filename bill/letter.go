package bill

import (
	"iter"
	"slices"

	"nochez/api"
	"nochez/lists"
)

func (r Range) has(n int) bool { return r.Lo <= n && n <= r.Hi }

// spans reports whether another range is valid, and has its ends in this one.
func (r Range) spans(other Range) bool {
	return other.Lo <= other.Hi && r.has(other.Lo) && r.has(other.Hi)
}

func upTo(most int) Range { return Range{Lo: 0, Hi: most} }

// marks is how many different marks papers can have.
const marks = api.MaxBillMark + 1

// check returns the error of a letter, or OK.
func (l Letter) check() api.Errno {
	switch {
	case len(l.Clauses) > api.MaxBillClauses, len(l.Papers) > api.MaxBillPapers:
		return api.ErrLimit
	case len(l.Clauses) == 0, !lists.Each(l.Clauses, Clause.isValid), !lists.Each(l.Papers, Paper.isValid), !upTo(api.MaxBillDay).has(l.Expiry):
		return api.ErrArg
	}
	return api.OK
}

func (c Clause) isValid() bool {
	asks := upTo(api.MaxBillKind).has(c.Kind) && (c.Party == Any || upTo(api.MaxBillParty).has(c.Party))
	return asks && upTo(api.MaxBillQuantity).spans(c.Quantity) && upTo(api.MaxBillDay).spans(c.Dated)
}

func (p Paper) isValid() bool {
	is := upTo(api.MaxBillKind).has(p.Kind) && upTo(api.MaxBillParty).has(p.Party) && upTo(api.MaxBillMark).has(p.Mark)
	says := upTo(api.MaxBillQuantity).has(p.Quantity) && upTo(api.MaxBillDay).has(p.Dated)
	return is && says && upTo(api.MaxBillDay).spans(p.Arrives)
}

func (l Letter) hasClause(clause int) bool { return clause >= 0 && clause < len(l.Clauses) }

func (l Letter) hasPaper(paper int) bool { return paper >= 0 && paper < len(l.Papers) }

func (p Paper) meets(c Clause) bool {
	is := p.Kind == c.Kind && (c.Party == Any || c.Party == p.Party)
	return is && c.Quantity.has(p.Quantity) && c.Dated.has(p.Dated)
}

// meeting yields the papers that meet a clause, rising.
func (l Letter) meeting(c Clause) iter.Seq[int] {
	return func(yield func(paper int) bool) {
		for paper, p := range l.Papers {
			if p.meets(c) && !yield(paper) {
				return
			}
		}
	}
}

// isPresentation reports whether a list is a presentation.
func (l Letter) isPresentation(papers []int) bool {
	if len(papers) != len(l.Clauses) || !lists.Each(papers, l.hasPaper) {
		return false
	}
	for clause, paper := range papers {
		p := l.Papers[paper]
		isUsed := slices.Contains(papers[:clause], paper)
		if isUsed || p.Mark != l.Papers[papers[0]].Mark || !p.meets(l.Clauses[clause]) {
			return false
		}
	}
	return true
}

// isInTime reports whether a paper is in time.
func (l Letter) isInTime(paper int) bool { return l.Papers[paper].latest() <= l.Expiry }
