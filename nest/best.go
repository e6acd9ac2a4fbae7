package nest

import "iter"

// best returns the best layout, if some layout is right.
func (s *site) best() (laid, bool) {
	found, some := bare(), false
search:
	for nests := range len(s.Pads) + 1 {
		for l, b := range s.layouts(nests) {
			if s.right(b) {
				found, some = l, true
				break search
			}
		}
	}
	return found, some
}

// layouts yields the layouts with so many nests in which no pad can be overfull, with their bounds, in lexicographic order.
func (s *site) layouts(nests int) iter.Seq2[laid, row] {
	return func(yield func(laid, row) bool) {
		var place func(l laid, b row, pad, left int) bool
		place = func(l laid, b row, pad, left int) bool {
			// One more nest makes no maximum lower, so that what is overfull now remains so.
			if !s.holds(b) || left > len(s.Pads)-pad {
				return true
			}
			if left == 0 {
				return yield(l, b)
			}
			if !place(l, b, pad+1, left) {
				return false
			}
			for kind := range s.Kinds {
				if !s.takes(pad, kind) {
					continue
				}
				l[pad] = kind
				if !place(l, b.plus(s.nests[pad][kind].bounds), pad+1, left-1) {
					return false
				}
			}
			return true
		}
		place(bare(), row{}, 0, nests)
	}
}
