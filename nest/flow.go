package nest

import (
	"nochez/api"
	"nochez/lists"
)

// The nodes of a network: one for the nest of each pad, one for each pad, the source of all young, and the sink to which all pads lead.
const (
	firstNest = 0
	firstPad  = firstNest + api.MaxNestPads
	source    = firstPad + api.MaxNestPads
	sink      = source + 1
	nodes     = sink + 1
)

// arc leads from one node to another one.
type arc struct{ from, to int }

// network has, for each arc, how many young can still be sent along it.
type network map[arc]int

// fill sends as many young as possible from the source to the sink, and returns their number.
func (n network) fill() int {
	total := 0
	for {
		sent := n.send()
		if sent == 0 {
			return total
		}
		total += sent
	}
}

// send sends young along one path, and returns their number: 0 if there is no path.
func (n network) send() int {
	var seen [nodes]bool
	var search func(node, young int) int
	search = func(node, young int) int {
		if node == sink {
			return young
		}
		seen[node] = true
		for next := range nodes {
			left := n[arc{node, next}]
			if left == 0 || seen[next] {
				continue
			}
			if sent := search(next, lists.Least(young, left)); sent > 0 {
				n[arc{node, next}] -= sent
				n[arc{next, node}] += sent
				return sent
			}
		}
		return 0
	}
	return search(source, api.MaxNestPads*api.MaxNestYoung)
}

// goodSpread returns a good spread of the layout, if there is one.
func (s *site) goodSpread(l laid) ([][]int, bool) {
	n := network{}
	var lows [api.MaxNestPads]int
	supply := 0
	for pad, x := range s.placed(l) {
		// Only what is above the lower ends of the shares is sent through the network.
		spare := x.young - x.sum(Range.low)
		supply += spare
		n[arc{source, firstNest + pad}] = spare
		for p, r := range x.shares {
			n[arc{firstNest + pad, firstPad + p}] = r.Hi - r.Lo
			lows[p] += r.Lo
		}
	}
	// The needs are met first. What flows to a pad then is never taken back from it, since no path leads on from the sink.
	needs := 0
	for pad, p := range s.Pads {
		if lows[pad] > p.Room {
			return nil, false
		}
		need := lists.Most(p.Need-lows[pad], 0)
		needs += need
		n[arc{firstPad + pad, sink}] = need
	}
	if n.fill() != needs {
		return nil, false
	}
	for pad, p := range s.Pads {
		n[arc{firstPad + pad, sink}] = p.Room - lists.Most(p.Need, lows[pad])
	}
	if n.fill() != supply-needs {
		return nil, false
	}
	return s.sent(l, n), true
}

// sent returns the spread of the layout that has been sent through the network.
func (s *site) sent(l laid, n network) [][]int {
	spread := make([][]int, len(s.Pads))
	for pad, x := range s.placed(l) {
		for p := range s.Pads {
			back := arc{firstPad + p, firstNest + pad}
			spread[pad] = append(spread[pad], x.shares[p].Lo+n[back])
		}
	}
	return spread
}
