package shade_test

import (
	"math/rand/v2"
	"slices"

	"nochez/shade"
)

// The references go by the words of the definitions, and call nothing of the package: they try all truths, and all recipes.

func to(low, high int) shade.Range { return shade.Range{Lo: low, Hi: high} }

func list(l ...int) []int { return l }

func in(r shade.Range, n int) bool { return r.Lo <= n && n <= r.Hi }

func inside(inner, outer shade.Range) bool { return in(outer, inner.Lo) && in(outer, inner.Hi) }

func lot(low, high, stock, price int) shade.Lot {
	return shade.Lot{Strength: to(low, high), Stock: stock, Price: price}
}

func recipe(grain []int, tin, alum, time int) shade.Recipe {
	return shade.Recipe{Grain: grain, Tin: tin, Alum: alum, Time: time}
}

func truth(strength []int, bind, uptake int) shade.Truth {
	return shade.Truth{Strength: strength, Bind: bind, Uptake: uptake}
}

func order(depth, hue shade.Range) shade.Order { return shade.Order{Depth: depth, Hue: hue} }

// house and plain are the houses of the chapter's examples, mixed is the recipe for the first one.
func house() shade.House {
	return shade.House{
		Lots: []shade.Lot{lot(600, 700, 4, 5)}, Wool: shade.Wool{Weight: 50, Bind: to(20, 30), Uptake: to(80, 90)},
		Full: 4, Tin: 3, Alum: 1, Hour: 2,
	}
}

func plain() shade.House {
	return shade.House{
		Lots: []shade.Lot{lot(500, 500, 3, 4)}, Wool: shade.Wool{Weight: 10, Bind: to(50, 50), Uptake: to(100, 100)},
		Full: 2, Tin: 3, Alum: 1, Hour: 1,
	}
}

func mixed() shade.Recipe { return recipe(list(3), 4, 10, 4) }

// three is a house with as many lots as there may be, and blend a recipe for it.
func three() shade.House {
	return shade.House{
		Lots: []shade.Lot{lot(600, 603, 2, 5), lot(298, 300, 3, 2), lot(0, 0, 1, 0)}, Wool: shade.Wool{Weight: 7, Bind: to(9, 11), Uptake: to(70, 71)},
		Full: 3, Tin: 4, Alum: 2, Hour: 1,
	}
}

func blend() shade.Recipe { return recipe(list(1, 1, 0), 2, 3, 3) }

// clone copies a house, so that it can be changed.
func clone(h shade.House) shade.House {
	h.Lots = slices.Clone(h.Lots)
	return h
}

func cloneRecipe(r shade.Recipe) shade.Recipe {
	r.Grain = slices.Clone(r.Grain)
	return r
}

func cloneTruth(t shade.Truth) shade.Truth {
	t.Strength = slices.Clone(t.Strength)
	return t
}

// lists calls a function with all lists that have a number of each range, in lexicographic order, until it returns false.
func lists(ranges []shade.Range, call func([]int) bool) {
	var l []int
	for _, r := range ranges {
		l = append(l, r.Lo)
	}
	for call(slices.Clone(l)) {
		i := len(l) - 1
		for i >= 0 && l[i] == ranges[i].Hi {
			l[i] = ranges[i].Lo
			i--
		}
		if i < 0 {
			return
		}
		l[i]++
	}
}

// rangesOf returns the ranges of all that is not known, in the order in which truths are compared.
func rangesOf(h shade.House) (ranges []shade.Range) {
	for _, l := range h.Lots {
		ranges = append(ranges, l.Strength)
	}
	return append(ranges, h.Wool.Bind, h.Wool.Uptake)
}

func truthOf(l []int) shade.Truth {
	lots := len(l) - 2
	return truth(l[:lots], l[lots], l[lots+1])
}

func listOf(t shade.Truth) []int { return append(slices.Clone(t.Strength), t.Bind, t.Uptake) }

// truths calls a function with all truths of a house, from the first one, until it returns false.
func truths(h shade.House, call func(shade.Truth) bool) {
	lists(rangesOf(h), func(l []int) bool { return call(truthOf(l)) })
}

// recipesOf has all recipes of a house, from the first one.
func recipesOf(h shade.House) (all []shade.Recipe) {
	var ranges []shade.Range
	for _, l := range h.Lots {
		ranges = append(ranges, to(0, l.Stock))
	}
	lots := len(ranges)
	lists(append(ranges, to(0, 5), to(0, 10), to(0, 10)), func(l []int) bool {
		all = append(all, recipe(l[:lots], l[lots], l[lots+1], l[lots+2]))
		return true
	})
	return all
}

// compareRecipes returns a number below 0 if the first recipe is before the second one.
func compareRecipes(a, b shade.Recipe) int {
	return slices.Compare(append(slices.Clone(a.Grain), a.Tin, a.Alum, a.Time), append(slices.Clone(b.Grain), b.Tin, b.Alum, b.Time))
}

func sameRecipe(a, b shade.Recipe) bool {
	return len(a.Grain) == len(b.Grain) && compareRecipes(a, b) == 0
}

func sameTruth(a, b shade.Truth) bool {
	return slices.Equal(a.Strength, b.Strength) && a.Bind == b.Bind && a.Uptake == b.Uptake
}

func depthOf(h shade.House, r shade.Recipe, t shade.Truth) int {
	sum := 0
	for i, n := range r.Grain {
		sum += n * t.Strength[i]
	}
	carmine, mordant := sum/10, 3*r.Tin+r.Alum
	held := min(carmine, 10*min(mordant, t.Bind))
	fixed := held * min(r.Time, h.Full) / h.Full
	return fixed * t.Uptake / h.Wool.Weight
}

func hueOf(r shade.Recipe) int {
	mordant := 3*r.Tin + r.Alum
	if mordant == 0 {
		return 0
	}
	return 300 * r.Tin / mordant
}

func costOf(h shade.House, r shade.Recipe) int {
	cost := h.Tin*r.Tin + h.Alum*r.Alum + h.Hour*r.Time
	for i, l := range h.Lots {
		cost += l.Price * r.Grain[i]
	}
	return cost
}

// hitsIn reports whether a recipe hits an order in a truth.
func hitsIn(h shade.House, r shade.Recipe, o shade.Order, t shade.Truth) bool {
	return in(o.Depth, depthOf(h, r, t)) && in(o.Hue, hueOf(r))
}

// missOf returns the first truth in which a recipe misses an order, and whether there is one.
func missOf(h shade.House, r shade.Recipe, o shade.Order) (miss shade.Truth, found bool) {
	truths(h, func(t shade.Truth) bool {
		if !hitsIn(h, r, o, t) {
			miss, found = t, true
		}
		return !found
	})
	return miss, found
}

// depthsOf returns the smallest and the greatest depth of a recipe in all truths.
func depthsOf(h shade.House, r shade.Recipe) shade.Range {
	depths := to(1<<40, -1)
	truths(h, func(t shade.Truth) bool {
		depth := depthOf(h, r, t)
		depths = to(min(depths.Lo, depth), max(depths.Hi, depth))
		return true
	})
	return depths
}

// bestOf returns the cheapest of some recipes that hit an order, the first one of several, and whether there is one.
func bestOf(h shade.House, o shade.Order, some []shade.Recipe) (best shade.Recipe, found bool) {
	for _, r := range some {
		if found && costOf(h, r) >= costOf(h, best) {
			continue
		}
		if _, misses := missOf(h, r, o); !misses {
			best, found = r, true
		}
	}
	return best, found
}

// size bounds the houses that are drawn: each number that is not known is within so much.
type size struct{ lots, strength, bind, uptake, stock int }

var (
	// small houses have few truths, though several lots.
	small = size{lots: 3, strength: 3, bind: 2, uptake: 2, stock: 4}
	// few houses have few recipes and few truths.
	few = size{lots: 2, strength: 2, bind: 1, uptake: 1, stock: 2}
	// wide houses have one lot of which nothing may be known.
	wide = size{lots: 1, strength: 1000, bind: 4, uptake: 2, stock: 10}
	// loose houses have wool of which nothing may be known.
	loose = size{lots: 1, strength: 3, bind: 50, uptake: 100, stock: 6}
	// large houses reach the limits.
	large = size{lots: 3, strength: 1000, bind: 50, uptake: 100, stock: 10}
)

func chance(seed uint64) *rand.Rand { return rand.New(rand.NewPCG(seed, 9)) }

func between(r *rand.Rand, low, high int) int { return low + r.IntN(high-low+1) }

// within draws a range of numbers up to a limit that is at most so wide.
func within(r *rand.Rand, limit, width int) shade.Range {
	w := r.IntN(width + 1)
	if r.IntN(4) == 0 {
		w = list(0, width)[r.IntN(2)]
	}
	low := r.IntN(limit - w + 1)
	return to(low, low+w)
}

// part draws a range in another one.
func part(r *rand.Rand, of shade.Range) shade.Range {
	a, b := between(r, of.Lo, of.Hi), between(r, of.Lo, of.Hi)
	if r.IntN(3) == 0 {
		a = of.Lo
	}
	if r.IntN(3) == 0 {
		b = of.Hi
	}
	return to(min(a, b), max(a, b))
}

// draw draws a valid house.
func draw(r *rand.Rand, z size) shade.House {
	price := func() int { return list(0, r.IntN(4), r.IntN(10), r.IntN(101))[r.IntN(4)] }
	h := shade.House{Full: between(r, 1, 10), Tin: price(), Alum: price(), Hour: price()}
	for range between(r, 1, z.lots) {
		strongest := max(z.strength, list(50, 300, 1000)[r.IntN(3)]) // of strong grain there mostly is more than the wool holds
		h.Lots = append(h.Lots, shade.Lot{Strength: within(r, strongest, z.strength), Stock: r.IntN(z.stock + 1), Price: price()})
	}
	h.Wool = shade.Wool{Weight: between(r, 1, list(3, 10, 100)[r.IntN(3)]), Bind: within(r, 50, z.bind), Uptake: within(r, 100, z.uptake)}
	if r.IntN(2) == 0 { // what is dyed is often held by what there is of the mordant
		h.Wool.Bind = within(r, 20, min(20, z.bind))
	}
	return h
}

// drawRecipe draws a recipe of a house; in half of them there is time enough.
func drawRecipe(r *rand.Rand, h shade.House) shade.Recipe {
	m := recipe(nil, r.IntN(6), r.IntN(11), r.IntN(11))
	if r.IntN(2) == 0 {
		m.Time = between(r, h.Full, 10)
	}
	few := list(1, 2, 10)[r.IntN(3)]
	for _, l := range h.Lots {
		m.Grain = append(m.Grain, r.IntN(min(few, l.Stock)+1))
	}
	return m
}

// drawTruth draws a truth of a house; many of its numbers are at the ends.
func drawTruth(r *rand.Rand, h shade.House) shade.Truth {
	var l []int
	for _, x := range rangesOf(h) {
		l = append(l, list(x.Lo, x.Hi, between(r, x.Lo, x.Hi), between(r, x.Lo, x.Hi))[r.IntN(4)])
	}
	return truthOf(l)
}

// cut returns the number of a range that is next to a number.
func cut(n int, r shade.Range) int { return max(r.Lo, min(r.Hi, n)) }

// drawOrder draws an order for about what a recipe does in two truths, or for less, or for more; in some of the orders the hue is off.
func drawOrder(r *rand.Rand, h shade.House, m shade.Recipe) shade.Order {
	a, b := depthOf(h, m, drawTruth(r, h)), depthOf(h, m, drawTruth(r, h))
	a, b = min(a, b), max(a, b)
	switch r.IntN(6) {
	case 0:
		a, b = a-1-r.IntN(20), a-1
	case 1:
		a, b = b+1, b+1+r.IntN(20)
	case 2, 3:
		a, b = a-r.IntN(4)*r.IntN(40), b+r.IntN(4)*r.IntN(40)
	}
	depth, hue := to(0, 100000), to(0, 100)
	o := order(to(cut(a, depth), cut(b, depth)), to(cut(hueOf(m)-r.IntN(30), hue), cut(hueOf(m)+r.IntN(30), hue)))
	if r.IntN(8) == 0 {
		o.Hue = within(r, 100, 60)
	}
	return o
}
