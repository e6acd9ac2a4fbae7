package shade_test

import (
	"math/rand/v2"
	"slices"
	"testing"

	"nochez/api"
	"nochez/shade"
)

// every has all sizes of houses.
func every() []size { return []size{small, few, wide, loose, large} }

// depthFound returns the depth of a recipe in a truth.
func depthFound(t *testing.T, h shade.House, m shade.Recipe, s shade.Truth) int {
	t.Helper()
	depth, _, e := shade.Dye(h, m, s)
	if e != api.OK {
		t.Fatalf("Dye of %v, %v, %v: %v", h, m, s, e)
	}
	return depth
}

// depthsFound returns the range of the depths of a recipe.
func depthsFound(t *testing.T, h shade.House, m shade.Recipe) shade.Range {
	t.Helper()
	depths, e := shade.Depths(h, m)
	if e != api.OK || depths.Lo > depths.Hi {
		t.Fatalf("Depths of %v, %v: %v, %v", h, m, depths, e)
	}
	return depths
}

// hitFound reports whether a recipe hits an order.
func hitFound(t *testing.T, h shade.House, m shade.Recipe, o shade.Order) bool {
	t.Helper()
	is, e := shade.Hits(h, m, o)
	if e != api.OK {
		t.Fatalf("Hits of %v, %v, %v: %v", h, m, o, e)
	}
	return is
}

// bestFound returns the best recipe, its cost, and whether there is one.
func bestFound(t *testing.T, h shade.House, o shade.Order) (shade.Recipe, int, bool) {
	t.Helper()
	m, cost, e := shade.Best(h, o)
	if e != api.OK && e != api.ErrMiss {
		t.Fatalf("Best of %v, %v: %v", h, o, e)
	}
	return m, cost, e == api.OK
}

// edges has the truths of a house with all numbers at one of their ends, and with all at a number in between.
func edges(h shade.House) (all []shade.Truth) {
	for _, of := range []func(shade.Range) int{func(x shade.Range) int { return x.Lo }, func(x shade.Range) int { return x.Hi }, func(x shade.Range) int { return (x.Lo + x.Hi) / 2 }} {
		var l []int
		for _, x := range rangesOf(h) {
			l = append(l, of(x))
		}
		all = append(all, truthOf(l))
	}
	return all
}

// P9.5, P2, P3
func TestInEachTruth(t *testing.T) {
	hit, wider := 0, 0
	some(21, 600, every(), func(r *rand.Rand, h shade.House) {
		m := drawRecipe(r, h)
		o := drawOrder(r, h, m)
		depths, is := depthsFound(t, h, m), hitFound(t, h, m, o)
		low, high := false, false
		for _, s := range append(edges(h), drawTruth(r, h), drawTruth(r, h), drawTruth(r, h), drawTruth(r, h)) {
			depth, hue, e := shade.Dye(h, m, s)
			if !in(depths, depth) || e != api.OK {
				t.Fatalf("%v, %v: the depth %d of %v is not in %v", h, m, depth, s, depths)
			}
			if is && (!in(o.Depth, depth) || !in(o.Hue, hue)) {
				t.Fatalf("%v, %v: misses %v in %v", h, m, o, s)
			}
			low, high = low || depth == depths.Lo, high || depth == depths.Hi
		}
		if !low || !high {
			t.Fatalf("%v, %v: an end of %v is not reached", h, m, depths)
		}
		if is {
			hit++
		}
		if depths.Hi > depths.Lo {
			wider++
		}
	})
	if hit < 800 || wider < 800 {
		t.Errorf("only %d hit, and %d are known within a range only", hit, wider)
	}
}

// before draws a truth that comes before another one of a house, and whether there is one.
func before(r *rand.Rand, h shade.House, s shade.Truth) (shade.Truth, bool) {
	l, ranges := listOf(s), rangesOf(h)
	var lower []int
	for i, n := range l {
		if n > ranges[i].Lo {
			lower = append(lower, i)
		}
	}
	if len(lower) == 0 {
		return s, false
	}
	at := lower[r.IntN(len(lower))]
	l[at] -= list(1, between(r, 1, l[at]-ranges[at].Lo))[r.IntN(2)]
	for i := at + 1; i < len(l); i++ {
		l[i] = list(ranges[i].Hi, between(r, ranges[i].Lo, ranges[i].Hi))[r.IntN(2)]
	}
	return truthOf(l), true
}

// P9.6
func TestTheFirstMiss(t *testing.T) {
	missed, earlier := 0, 0
	some(22, 800, every(), func(r *rand.Rand, h shade.House) {
		m := drawRecipe(r, h)
		o := drawOrder(r, h, m)
		s, e := shade.Miss(h, m, o)
		if e == api.ErrNone {
			return
		}
		missed++
		if e != api.OK || len(s.Strength) != len(h.Lots) || !slices.EqualFunc(rangesOf(h), listOf(s), in) || hitsIn(h, m, o, s) {
			t.Fatalf("Miss of %v, %v, %v: %v, %v", h, m, o, s, e)
		}
		for range 20 {
			other, can := before(r, h, s)
			if can {
				earlier++
			}
			if can && !hitsIn(h, m, o, other) {
				t.Fatalf("Miss of %v, %v, %v: %v is before %v", h, m, o, other, s)
			}
		}
	})
	if missed < 1000 || earlier < 4000 {
		t.Errorf("only %d miss; %d truths before", missed, earlier)
	}
}

// better reports whether a recipe would have been the best one instead of another one.
func better(h shade.House, one, other shade.Recipe) bool {
	cost := costOf(h, one) - costOf(h, other)
	return cost < 0 || cost == 0 && compareRecipes(one, other) < 0
}

// nextTo has the recipes of a house of which one part is by one less, or more, than of another recipe, or two parts are.
func nextTo(h shade.House, m shade.Recipe) (next []shade.Recipe) {
	l := append(slices.Clone(m.Grain), m.Tin, m.Alum, m.Time)
	limits := list(5, 10, 10)
	for i := range h.Lots {
		limits = slices.Insert(limits, i, h.Lots[i].Stock)
	}
	for i := range l {
		for j := range l {
			for _, by := range [][]int{{-1, 0}, {-1, 1}, {1, 0}} {
				other := slices.Clone(l)
				other[i] += by[0]
				other[j] += by[1]
				if slices.EqualFunc(other, limits, func(n, most int) bool { return n >= 0 && n <= most }) {
					lots := len(h.Lots)
					next = append(next, recipe(other[:lots], other[lots], other[lots+1], other[lots+2]))
				}
			}
		}
	}
	return next
}

// P9.7, P5
func TestNoCheaperRecipe(t *testing.T) {
	found, tried := 0, 0
	check := func(r *rand.Rand, h shade.House) {
		m := drawRecipe(r, h)
		o := drawOrder(r, h, m)
		best, cost, can := bestFound(t, h, o)
		others := append(nextTo(h, best), m)
		if !can {
			others = []shade.Recipe{m}
		}
		for range 300 {
			others = append(others, drawRecipe(r, h))
		}
		for _, other := range others {
			if can && !better(h, other, best) {
				continue
			}
			tried++
			if hitFound(t, h, other, o) {
				t.Fatalf("Best of %v, %v: %v, %v; %v is better", h, o, best, can, other)
			}
		}
		if !can {
			return
		}
		found++
		if costOf(h, best) != cost || !hitFound(t, h, best, o) || !shade.ProveRecipe(h, best, o, cost) || shade.ProveRecipe(h, best, o, cost-1) {
			t.Fatalf("Best of %v, %v: %v, %d", h, o, best, cost)
		}
	}
	some(23, 80, []size{small, few, wide, loose}, check)
	some(24, 12, []size{large}, check)
	if found < 100 || tried < 10000 {
		t.Errorf("only %d are found, %d tried", found, tried)
	}
}

// risen has the recipes and truths with more of one thing that makes no depth smaller.
func risen(r *rand.Rand, h shade.House, m shade.Recipe, s shade.Truth) (recipes []shade.Recipe, truths []shade.Truth) {
	add := func(change func(*shade.Recipe)) {
		other := cloneRecipe(m)
		change(&other)
		recipes, truths = append(recipes, other), append(truths, s)
	}
	for i, l := range h.Lots {
		add(func(m *shade.Recipe) { m.Grain[i] = between(r, m.Grain[i], l.Stock) })
	}
	add(func(m *shade.Recipe) { m.Tin = between(r, m.Tin, 5) })
	add(func(m *shade.Recipe) { m.Alum = between(r, m.Alum, 10) })
	add(func(m *shade.Recipe) { m.Time = between(r, m.Time, 10) })
	for i, x := range rangesOf(h) {
		l := listOf(s)
		l[i] = between(r, l[i], x.Hi)
		recipes, truths = append(recipes, m), append(truths, truthOf(l))
	}
	return recipes, truths
}

// P9.8
func TestMoreOfIt(t *testing.T) {
	deeper, lighter := 0, 0
	some(25, 500, every(), func(r *rand.Rand, h shade.House) {
		m, s := drawRecipe(r, h), drawTruth(r, h)
		depth, depths := depthFound(t, h, m, s), depthsFound(t, h, m)
		recipes, truths := risen(r, h, m, s)
		for i := range recipes {
			more := depthFound(t, h, recipes[i], truths[i])
			if more < depth {
				t.Fatalf("%v: %v in %v dyes %d, but %v in %v %d", h, m, s, depth, recipes[i], truths[i], more)
			}
			if more > depth {
				deeper++
			}
			if d := depthsFound(t, h, recipes[i]); d.Lo < depths.Lo || d.Hi < depths.Hi {
				t.Fatalf("%v: the depths of %v are %v, but of %v %v", h, m, depths, recipes[i], d)
			}
		}
		h.Wool.Weight = between(r, h.Wool.Weight, 100)
		less := depthFound(t, h, m, s)
		if d := depthsFound(t, h, m); less > depth || d.Lo > depths.Lo || d.Hi > depths.Hi {
			t.Fatalf("%v, %v, %v: %d, %v, and %d, %v with less Weight", h, m, s, less, d, depth, depths)
		}
		if less < depth {
			lighter++
		}
	})
	if deeper < 2000 || lighter < 800 {
		t.Errorf("only %d are deeper, and %d lighter", deeper, lighter)
	}
}

// narrower draws a house in which more is known.
func narrower(r *rand.Rand, h shade.House) shade.House {
	h = clone(h)
	for i := range h.Lots {
		h.Lots[i].Strength = part(r, h.Lots[i].Strength)
	}
	h.Wool.Bind, h.Wool.Uptake = part(r, h.Wool.Bind), part(r, h.Wool.Uptake)
	return h
}

// noDearer checks that the best recipe for another house and order is no more expensive, and reports whether it is cheaper, or the only one.
func noDearer(t *testing.T, h shade.House, o shade.Order, other shade.House, wished shade.Order) bool {
	t.Helper()
	_, cost, can := bestFound(t, h, o)
	m, less, found := bestFound(t, other, wished)
	if can && (!found || less > cost) {
		t.Fatalf("Best of %v, %v costs %d; of %v, %v: %v, %d", h, o, cost, other, wished, m, less)
	}
	return found && (!can || less < cost)
}

// P9.9
func TestNarrower(t *testing.T) {
	closer, hit := 0, 0
	some(26, 500, every(), func(r *rand.Rand, h shade.House) {
		m := drawRecipe(r, h)
		o := drawOrder(r, h, m)
		other := narrower(r, h)
		wide, near := depthsFound(t, h, m), depthsFound(t, other, m)
		if !inside(near, wide) {
			t.Fatalf("Depths of %v, %v: %v, but of %v: %v", h, m, wide, other, near)
		}
		if near != wide {
			closer++
		}
		if hitFound(t, h, m, o) {
			hit++
			hits(t, other, m, o)
		}
	})
	cheaper := 0
	some(27, 100, []size{small, few, loose}, func(r *rand.Rand, h shade.House) {
		o := drawOrder(r, h, drawRecipe(r, h))
		if noDearer(t, h, o, narrower(r, h), o) {
			cheaper++
		}
	})
	if closer < 300 || hit < 800 || cheaper < 15 {
		t.Errorf("only %d are closer, %d hit, %d are cheaper", closer, hit, cheaper)
	}
}

// wider draws an order with a wider Depth, or a wider Hue.
func wider(r *rand.Rand, o shade.Order) shade.Order {
	if r.IntN(2) == 0 {
		o.Depth = to(max(0, o.Depth.Lo-r.IntN(30)), min(100000, o.Depth.Hi+r.IntN(30)))
	}
	if r.IntN(2) == 0 {
		o.Hue = to(max(0, o.Hue.Lo-r.IntN(30)), min(100, o.Hue.Hi+r.IntN(30)))
	}
	return o
}

// P9.10
func TestWiderOrders(t *testing.T) {
	hit, more := 0, 0
	some(28, 500, every(), func(r *rand.Rand, h shade.House) {
		m := drawRecipe(r, h)
		o := drawOrder(r, h, m)
		was, is := hitFound(t, h, m, o), hitFound(t, h, m, wider(r, o))
		if was && !is {
			t.Fatalf("%v hits %v of %v, but not a wider one", m, o, h)
		}
		if was {
			hit++
		}
		if is && !was {
			more++
		}
	})
	cheaper, stocked := 0, 0
	some(29, 300, []size{small, few, loose}, func(r *rand.Rand, h shade.House) {
		o := drawOrder(r, h, drawRecipe(r, h))
		if noDearer(t, h, o, h, wider(r, o)) {
			cheaper++
		}
		other := clone(h)
		for i, l := range h.Lots {
			other.Lots[i].Stock = min(10, l.Stock+r.IntN(3))
		}
		if noDearer(t, h, o, other, o) {
			stocked++
		}
	})
	if hit < 800 || more < 100 || cheaper < 80 || stocked < 30 {
		t.Errorf("only %d hit, %d do so now, %d are cheaper, %d with more Stock", hit, more, cheaper, stocked)
	}
}

// P9.11
func TestTooMuch(t *testing.T) {
	bound, much := 0, 0
	some(30, 600, every(), func(r *rand.Rand, h shade.House) {
		m, s := drawRecipe(r, h), drawTruth(r, h)
		m.Time = h.Full
		depth, depths := depthFound(t, h, m, s), depthsFound(t, h, m)
		for m.Time < 10 {
			m.Time++
			much++
			if depthFound(t, h, m, s) != depth || depthsFound(t, h, m) != depths {
				t.Fatalf("%v, %v: not %d, %v", h, m, depth, depths)
			}
		}
		if 3*m.Tin+m.Alum < h.Wool.Bind.Hi {
			return
		}
		for tin := range 6 {
			for alum := range 11 {
				other := recipe(m.Grain, tin, alum, m.Time)
				if 3*tin+alum < h.Wool.Bind.Hi {
					continue
				}
				bound++
				if depthFound(t, h, other, s) != depth || depthsFound(t, h, other) != depths {
					t.Fatalf("%v, %v: not %d, %v", h, other, depth, depths)
				}
			}
		}
	})
	if bound < 5000 || much < 5000 {
		t.Errorf("only %d are bound, %d have too much time", bound, much)
	}
}

// P9.12
func TestEqualLots(t *testing.T) {
	moved := 0
	some(31, 2000, []size{small, large}, func(r *rand.Rand, h shade.House) {
		if len(h.Lots) < 2 {
			return
		}
		from := r.IntN(len(h.Lots))
		onto := (from + 1 + r.IntN(len(h.Lots)-1)) % len(h.Lots)
		h.Lots[from].Strength.Hi = h.Lots[from].Strength.Lo
		h.Lots[onto].Strength = h.Lots[from].Strength
		m, s := drawRecipe(r, h), drawTruth(r, h)
		other := cloneRecipe(m)
		by := r.IntN(min(m.Grain[from], h.Lots[onto].Stock-m.Grain[onto]) + 1)
		if by == 0 {
			return
		}
		moved++
		other.Grain[from] -= by
		other.Grain[onto] += by
		dyes(t, h, other, s, depthFound(t, h, m, s), hueOf(m))
		spreads(t, h, other, depthsFound(t, h, m))
	})
	if moved < 500 {
		t.Errorf("only %d are moved", moved)
	}
}

// hueFound returns the hue of a recipe.
func hueFound(t *testing.T, h shade.House, m shade.Recipe, s shade.Truth) int {
	t.Helper()
	_, hue, e := shade.Dye(h, m, s)
	if e != api.OK {
		t.Fatalf("Dye of %v, %v, %v: %v", h, m, s, e)
	}
	return hue
}

// P9.13
func TestTheHue(t *testing.T) {
	some(32, 20, every(), func(r *rand.Rand, h shade.House) {
		for tin := range 6 {
			for alum := range 11 {
				m, s := drawRecipe(r, h), drawTruth(r, h)
				m.Tin, m.Alum = tin, alum
				hue := hueFound(t, h, m, s)
				switch {
				case tin == 0 && hue != 0, alum == 0 && tin > 0 && hue != 100, tin > 0 && alum > 0 && (hue <= 0 || hue >= 100):
					t.Fatalf("%v, %v, %v: %d", h, m, s, hue)
				}
				for times := 2; times <= 10 && times*tin <= 5 && times*alum <= 10; times++ {
					other := drawRecipe(r, h)
					other.Tin, other.Alum = times*tin, times*alum
					if n := hueFound(t, h, other, drawTruth(r, h)); n != hue {
						t.Fatalf("%v, %v: the hue is %d, not %d", h, other, n, hue)
					}
				}
			}
		}
	})
}

// P9.14
func TestPrices(t *testing.T) {
	found, paid := 0, 0
	some(33, 150, []size{small, few, loose}, func(r *rand.Rand, h shade.House) {
		times := between(r, 2, 5)
		h.Tin, h.Alum, h.Hour = h.Tin%21, h.Alum%21, h.Hour%21
		for i := range h.Lots {
			h.Lots[i].Price %= 21
		}
		other := clone(h)
		other.Tin, other.Alum, other.Hour = times*h.Tin, times*h.Alum, times*h.Hour
		for i := range h.Lots {
			other.Lots[i].Price = times * h.Lots[i].Price
		}
		m := drawRecipe(r, h)
		o := drawOrder(r, h, m)
		costs(t, other, m, times*costOf(h, m))
		best, cost, can := bestFound(t, h, o)
		if !can {
			lacks(t, other, o)
			return
		}
		found++
		if cost > 0 {
			paid++
		}
		finds(t, other, o, best, times*cost)
	})
	if found < 150 || paid < 80 {
		t.Errorf("only %d are found, %d cost something", found, paid)
	}
}
