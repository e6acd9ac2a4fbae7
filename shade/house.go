package shade

import (
	"nochez/api"
	"nochez/lists"
)

func (r Range) has(n int) bool { return r.Lo <= n && n <= r.Hi }

// spans reports whether another range is valid, and has its ends in this one.
func (r Range) spans(other Range) bool {
	return other.Lo <= other.Hi && r.has(other.Lo) && r.has(other.Hi)
}

// upTo has the numbers from 0.
func upTo(most int) Range { return Range{Lo: 0, Hi: most} }

// fromOne has the numbers from 1, for what something is divided by.
func fromOne(most int) Range { return Range{Lo: 1, Hi: most} }

// check returns the error of a house, or OK.
func (h House) check() api.Errno {
	switch {
	case len(h.Lots) > api.MaxShadeLots:
		return api.ErrLimit
	case len(h.Lots) == 0, !lists.Each(h.Lots, Lot.valid), !h.Wool.valid(), !h.hasTerms():
		return api.ErrArg
	}
	return api.OK
}

func (l Lot) valid() bool {
	return upTo(api.MaxShadeStrength).spans(l.Strength) && upTo(api.MaxShadeStock).has(l.Stock) && upTo(api.MaxShadePrice).has(l.Price)
}

func (w Wool) valid() bool {
	return fromOne(api.MaxShadeWeight).has(w.Weight) && upTo(api.MaxShadeBind).spans(w.Bind) && percent().spans(w.Uptake)
}

// percent has all numbers of Uptake, and all hues.
func percent() Range { return upTo(100) }

// hasTerms reports whether Full and the prices of a house are valid.
func (h House) hasTerms() bool {
	return fromOne(api.MaxShadeTime).has(h.Full) && lists.Each([]int{h.Tin, h.Alum, h.Hour}, upTo(api.MaxShadePrice).has)
}

// canMake reports whether a recipe is one of a valid house.
func (h House) canMake(r Recipe) bool {
	if len(r.Grain) != len(h.Lots) {
		return false
	}
	for lot, n := range r.Grain {
		if !upTo(h.Lots[lot].Stock).has(n) {
			return false
		}
	}
	isTin := upTo(api.MaxShadeTin).has
	return isTin(r.Tin) && upTo(api.MaxShadeAlum).has(r.Alum) && upTo(api.MaxShadeTime).has(r.Time)
}

// canBe reports whether a truth is one of a valid house.
func (h House) canBe(t Truth) bool {
	if len(t.Strength) != len(h.Lots) {
		return false
	}
	n := numbersOf(t)
	for i, unknown := range h.unknown() {
		if !unknown.has(n[i]) {
			return false
		}
	}
	return true
}

func (o Order) valid() bool {
	return upTo(api.MaxShadeDepth).spans(o.Depth) && percent().spans(o.Hue)
}

// cost returns what a recipe of a house costs.
func (h House) cost(r Recipe) int {
	cost := r.Tin*h.Tin + r.Alum*h.Alum + r.Time*h.Hour
	for lot, n := range r.Grain {
		cost += n * h.Lots[lot].Price
	}
	return cost
}

// mordant returns what makes the wool hold carmine.
func (r Recipe) mordant() int { return 3*r.Tin + r.Alum }

func (r Recipe) hue() int {
	if r.mordant() == 0 {
		return 0
	}
	return 300 * r.Tin / r.mordant()
}
