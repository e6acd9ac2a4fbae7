package dye

import (
	"nochez/api"
	"nochez/lists"
)

// rounds returns the bounds of all lots at an end: first by what is known before any reading, then by at most one reading, by at most two, and so on, until a further one makes none of them better.
func (b *bench) rounds(x end) []strengths {
	var known strengths
	for lot, r := range b.Lots {
		known[lot] = x.known(r)
	}
	rounds := []strengths{known}
	for {
		last := rounds[len(rounds)-1]
		next := last
		for e := range b.edges(x) {
			next[e.to] = lists.Least(next[e.to], last[e.from]+e.most)
		}
		if next == last {
			return rounds
		}
		rounds = append(rounds, next)
	}
}

// chain returns a chain whose bound is an end of the bounds of a lot. It has only links without which no bound is as good, so that it comes to no lot twice.
func (b *bench) chain(lot int, x end) Chain {
	rounds := b.rounds(x)
	var back func(lot, round int) Chain
	back = func(lot, round int) Chain {
		if round == 0 {
			return Chain{From: lot, First: None}
		}
		bound, last := rounds[round][lot], rounds[round-1]
		if bound == last[lot] {
			return back(lot, round-1)
		}
		e, _ := b.find(x, func(e edge) bool { return e.to == lot && last[e.from]+e.most == bound })
		if e.from == water {
			return Chain{From: lot, First: e.reading}
		}
		c := back(e.from, round-1)
		c.Links = append(c.Links, e.reading)
		return c
	}
	return back(lot, len(rounds)-1)
}

// shows reports whether a list is a chain of valid works for a lot whose bound is at most, or at least, a number.
func (w Works) shows(c Chain, lot int, high bool, bound int) bool {
	at, sum, valid := w.follow(c, endOf(high))
	switch {
	case !valid, at != lot:
		return false
	case high:
		return sum <= bound
	}
	return -sum >= bound
}

// follow returns the lot to which a chain leads, and how far at an end it is at most; false if it is no chain.
func (w Works) follow(c Chain, x end) (at, sum int, valid bool) {
	if len(c.Links) > api.MaxDyeLots {
		return 0, 0, false
	}
	at = c.From
	sum, valid = w.first(c, x)
	for _, link := range c.Links {
		e, found := w.find(x, func(e edge) bool { return e.reading == link && e.from == at && e.to != water })
		at, sum, valid = e.to, sum+e.most, valid && found
	}
	return at, sum, valid
}

// first returns how far at an end the lot is at most from which a chain leads; false if its beginning is not valid.
func (w Works) first(c Chain, x end) (int, bool) {
	if c.First == None && w.hasLot(c.From) {
		return x.known(w.Lots[c.From]), true
	}
	e, found := w.find(x, func(e edge) bool { return e.reading == c.First && e.pair == pair{water, c.From} })
	return e.most, found
}
