package nest

import (
	"iter"

	"nochez/api"
)

// laid is a layout at work; beyond the pads of its grove it has None.
type laid [api.MaxNestPads]int

// bare returns the layout without nests.
func bare() laid {
	var l laid
	for pad := range l {
		l[pad] = None
	}
	return l
}

// openLaid returns a grove and a layout of it at work, or their error.
func openLaid(g Grove, layout []int) (*site, laid, api.Errno) {
	s, e := open(g)
	if e != api.OK {
		return nil, laid{}, e
	}
	if len(layout) != len(s.Pads) {
		return nil, laid{}, api.ErrRange
	}
	l := bare()
	copy(l[:], layout)
	for pad, kind := range l {
		if kind != None && !s.takes(pad, kind) {
			return nil, laid{}, api.ErrRange
		}
	}
	return s, l, api.OK
}

// takes reports whether there is such a kind, and it fits on the pad.
func (s *site) takes(pad, kind int) bool {
	return kind >= 0 && kind < len(s.Kinds) && s.nests[pad][kind].fits()
}

// placed yields the pads that have a nest, and their nests.
func (s *site) placed(l laid) iter.Seq2[int, nest] {
	return func(yield func(int, nest) bool) {
		for pad, kind := range l {
			if kind != None && !yield(pad, s.nests[pad][kind]) {
				return
			}
		}
	}
}

// count returns the number of nests.
func (s *site) count(l laid) int {
	nests := 0
	for range s.placed(l) {
		nests++
	}
	return nests
}

// bounds adds up the bounds of all nests, which spread their young independently of each other.
func (s *site) bounds(l laid) row {
	var b row
	for _, n := range s.placed(l) {
		b = b.plus(n.bounds)
	}
	return b
}

func (b row) plus(other row) row {
	for pad, r := range other {
		b[pad].Lo += r.Lo
		b[pad].Hi += r.Hi
	}
	return b
}

func (s *site) missed(b row, pad int) bool { return b[pad].Lo < s.Pads[pad].Need }

func (s *site) overfull(b row, pad int) bool { return b[pad].Hi > s.Pads[pad].Room }

// holds reports whether no pad can be overfull.
func (s *site) holds(b row) bool {
	for pad := range s.Pads {
		if s.overfull(b, pad) {
			return false
		}
	}
	return true
}

// right reports whether a layout with these bounds is right.
func (s *site) right(b row) bool {
	for pad := range s.Pads {
		if s.missed(b, pad) {
			return false
		}
	}
	return s.holds(b)
}

// spreads reports whether the lists are a spread of the layout.
func (s *site) spreads(l laid, spread [][]int) bool {
	if len(spread) != len(s.Pads) {
		return false
	}
	for pad, kind := range l[:len(s.Pads)] {
		if kind == None && len(spread[pad]) > 0 {
			return false
		}
		if kind != None && !s.nests[pad][kind].spreadBy(spread[pad], len(s.Pads)) {
			return false
		}
	}
	return true
}

// good reports whether the young of each pad, in a spread, are from its Need to its Room.
func (s *site) good(spread [][]int) bool {
	var young [api.MaxNestPads]int
	for _, numbers := range spread {
		for pad, number := range numbers {
			young[pad] += number
		}
	}
	for pad, p := range s.Pads {
		if young[pad] < p.Need || young[pad] > p.Room {
			return false
		}
	}
	return true
}
