package shade

import (
	"nochez/api"
	"nochez/lists"
)

// vat is what the depths of a recipe depend on in a house: how much is held in its truths, and how long, up to Full.
type vat struct {
	held Range
	time int
}

// dyer is a house at work.
type dyer struct {
	House
	low, high numbers // of the truths at the ends
	depths    map[vat]Range
}

// open returns a valid house that can make these recipes, at work; or the error.
func open(h House, recipes ...Recipe) (*dyer, api.Errno) {
	if e := h.check(); e != api.OK {
		return nil, e
	}
	if !lists.Each(recipes, h.canMake) {
		return nil, api.ErrRange
	}
	return &dyer{House: h, low: h.at(lower()), high: h.at(upper()), depths: map[vat]Range{}}, api.OK
}

// take opens a house for an order.
func take(h House, o Order, recipes ...Recipe) (*dyer, api.Errno) {
	d, e := open(h, recipes...)
	if e != api.OK {
		return nil, e
	}
	if !o.valid() {
		return nil, api.ErrRange
	}
	return d, api.OK
}

// held returns how much of the carmine of a recipe is held in a truth.
func (d *dyer) held(r Recipe, n numbers) int {
	sum := 0
	for lot, grain := range r.Grain {
		sum += grain * n[lot]
	}
	return lists.Least(sum/10, 10*lists.Least(r.mordant(), n[bindAt]))
}

// time returns how long something is fixed with a recipe.
func (d *dyer) time(r Recipe) int { return lists.Least(r.Time, d.Full) }

// takenUp returns the depth if so much is held for this time.
func (d *dyer) takenUp(held, time, uptake int) int {
	fixed := held * time / d.Full
	return fixed * uptake / d.Wool.Weight
}

// depth returns the depth of a recipe in a truth.
func (d *dyer) depth(r Recipe, n numbers) int {
	return d.takenUp(d.held(r, n), d.time(r), n[uptakeAt])
}

// bounds returns the range of the depths of a recipe in all truths.
func (d *dyer) bounds(r Recipe) Range {
	v := vat{held: Range{Lo: d.held(r, d.low), Hi: d.held(r, d.high)}, time: d.time(r)}
	depths, known := d.depths[v]
	if !known {
		depths = Range{Lo: d.depthAt(v, lower()), Hi: d.depthAt(v, upper())}
		d.depths[v] = depths
	}
	return depths
}

// depthAt returns the depth in a vat if all that is not known is at an end.
func (d *dyer) depthAt(v vat, x end) int {
	return d.takenUp(x.of(v.held), v.time, x.of(d.Wool.Uptake))
}

// hits reports whether a recipe hits an order in each truth.
func (d *dyer) hits(r Recipe, o Order) bool {
	return o.Hue.has(r.hue()) && o.Depth.spans(d.bounds(r))
}

// misses reports whether a recipe misses an order in one truth.
func (d *dyer) misses(r Recipe, o Order, n numbers) bool {
	return !o.Hue.has(r.hue()) || !o.Depth.has(d.depth(r, n))
}

// firstMiss returns the numbers of the first truth in which a recipe misses an order that it does not hit. Of the truths that begin with the same numbers none misses if neither the lowest nor the highest one does, as the depths of the others are in between.
func (d *dyer) firstMiss(r Recipe, o Order) numbers {
	lowest, highest := d.low, d.high
search:
	for i, unknown := range d.unknown() {
		for n := unknown.Lo; n <= unknown.Hi; n++ {
			lowest[i], highest[i] = n, n
			if d.misses(r, o, lowest) { // none that begins so comes before it
				break search
			}
			if d.misses(r, o, highest) {
				continue search
			}
		}
	}
	return lowest
}
