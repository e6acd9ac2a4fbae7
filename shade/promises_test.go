package shade_test

import (
	"math"
	"math/rand/v2"
	"slices"
	"testing"

	"nochez/api"
	"nochez/shade"
)

// bare is a house in which the depth is what is held if the time is 10.
func bare(lots ...shade.Lot) shade.House {
	return shade.House{Lots: lots, Wool: shade.Wool{Weight: 1, Bind: to(50, 50), Uptake: to(1, 1)}, Full: 10}
}

// some draws houses of some sizes, so many of each.
func some(seed uint64, number int, sizes []size, call func(r *rand.Rand, h shade.House)) {
	r := chance(seed)
	for _, z := range sizes {
		for range number {
			call(r, draw(r, z))
		}
	}
}

// P9.1: what is dyed
func TestCarmineByHand(t *testing.T) {
	for _, x := range []struct {
		one, other int
		grain      []int
		depth      int
	}{
		{0, 0, list(1, 1), 0}, {9, 0, list(1, 0), 0}, {9, 0, list(10, 0), 9}, {10, 0, list(1, 0), 1}, {19, 0, list(1, 0), 1}, {19, 1, list(1, 1), 2},
		{299, 305, list(1, 1), 60}, {299, 305, list(1, 0), 29}, {299, 305, list(0, 1), 30}, {299, 305, list(2, 1), 90}, {299, 305, list(0, 0), 0},
		{333, 99, list(4, 3), 162}, {333, 99, list(0, 10), 99}, {1000, 0, list(2, 0), 200}, {1000, 1000, list(1, 1), 200},
		{1000, 499, list(2, 1), 249}, {1000, 500, list(2, 1), 250}, {1000, 510, list(2, 1), 250}, {1000, 1000, list(10, 10), 250},
	} {
		h := bare(lot(x.one, x.one, 10, 0), lot(x.other, x.other, 10, 0))
		dyes(t, h, recipe(x.grain, 5, 10, 10), truth(list(x.one, x.other), 50, 1), x.depth, 60)
	}
	dyes(t, bare(lot(107, 107, 10, 0), lot(201, 201, 10, 0), lot(305, 305, 10, 0)), recipe(list(1, 2, 3), 5, 10, 10), truth(list(107, 201, 305), 50, 1), 142, 60)
}

func TestMordantByHand(t *testing.T) {
	for _, x := range []struct{ tin, alum, bind, depth, hue int }{
		{0, 0, 50, 0, 0}, {0, 1, 50, 10, 0}, {0, 5, 50, 50, 0}, {0, 6, 50, 60, 0}, {0, 7, 50, 61, 0}, {0, 10, 50, 61, 0},
		{1, 0, 50, 30, 100}, {2, 0, 50, 60, 100}, {3, 0, 50, 61, 100}, {5, 0, 50, 61, 100}, {1, 1, 50, 40, 75}, {1, 2, 50, 50, 60},
		{1, 3, 50, 60, 50}, {1, 4, 50, 61, 42}, {1, 10, 50, 61, 23}, {2, 1, 50, 61, 85}, {3, 5, 50, 61, 64}, {4, 1, 50, 61, 92}, {5, 1, 50, 61, 93}, {5, 10, 50, 61, 60},
		{5, 10, 0, 0, 60}, {5, 10, 1, 10, 60}, {5, 10, 4, 40, 60}, {5, 10, 6, 60, 60}, {5, 10, 7, 61, 60}, {0, 3, 4, 30, 0}, {0, 4, 4, 40, 0}, {0, 5, 4, 40, 0}, {1, 0, 4, 30, 100},
	} {
		h := bare(lot(305, 305, 2, 0))
		h.Wool.Bind = to(0, 50)
		dyes(t, h, recipe(list(2), x.tin, x.alum, 10), truth(list(305), x.bind, 1), x.depth, x.hue)
	}
}

func TestTimeAndUptakeByHand(t *testing.T) {
	for _, x := range []struct{ full, time, uptake, weight, depth int }{
		{10, 0, 1, 1, 0}, {10, 1, 1, 1, 6}, {10, 3, 1, 1, 18}, {10, 9, 1, 1, 54}, {10, 10, 1, 1, 61}, {7, 3, 1, 1, 26}, {7, 6, 1, 1, 52}, {7, 7, 1, 1, 61}, {7, 8, 1, 1, 61}, {7, 10, 1, 1, 61},
		{1, 0, 1, 1, 0}, {1, 1, 1, 1, 61}, {1, 10, 1, 1, 61}, {2, 1, 1, 1, 30}, {3, 2, 1, 1, 40},
		{2, 1, 50, 10, 150}, {7, 3, 50, 10, 130}, {7, 3, 50, 9, 144}, {7, 3, 51, 9, 147}, {10, 10, 100, 1, 6100}, {10, 10, 100, 100, 61}, {10, 10, 99, 100, 60}, {10, 10, 1, 100, 0}, {10, 10, 0, 1, 0}, {10, 10, 33, 61, 33}, {10, 10, 1, 61, 1}, {10, 10, 1, 62, 0},
	} {
		h := bare(lot(612, 612, 1, 0))
		h.Full, h.Wool.Weight, h.Wool.Uptake = x.full, x.weight, to(0, 100)
		dyes(t, h, recipe(list(1), 5, 10, x.time), truth(list(612), 50, x.uptake), x.depth, 60)
	}
}

// P9.1: what it costs
func TestCostByHand(t *testing.T) {
	for _, x := range []struct {
		m    shade.Recipe
		cost int
	}{
		{recipe(list(0, 0, 0), 0, 0, 0), 0}, {recipe(list(1, 0, 0), 0, 0, 0), 5}, {recipe(list(0, 1, 0), 0, 0, 0), 2}, {recipe(list(0, 0, 1), 0, 0, 0), 0}, {recipe(list(2, 3, 1), 0, 0, 0), 16},
		{recipe(list(0, 0, 0), 1, 0, 0), 4}, {recipe(list(0, 0, 0), 0, 1, 0), 2}, {recipe(list(0, 0, 0), 0, 0, 1), 1}, {recipe(list(0, 0, 0), 5, 10, 10), 50}, {blend(), 24}, {recipe(list(2, 3, 1), 5, 10, 10), 66},
	} {
		costs(t, three(), x.m, x.cost)
	}
	dear := bare(lot(0, 0, 10, 100), lot(0, 0, 10, 100), lot(0, 0, 10, 100))
	dear.Tin, dear.Alum, dear.Hour = 100, 100, 100
	costs(t, dear, recipe(list(10, 10, 10), 5, 10, 10), 5500)
}

// P9.1: in any truth of any house
func TestDyeAndCost(t *testing.T) {
	deep := 0
	some(11, 1000, []size{small, few, wide, loose, large}, func(r *rand.Rand, h shade.House) {
		m := drawRecipe(r, h)
		costs(t, h, m, costOf(h, m))
		for range 4 {
			s := drawTruth(r, h)
			depth := depthOf(h, m, s)
			dyes(t, h, m, s, depth, hueOf(m))
			if depth > 0 {
				deep++
			}
		}
	})
	if deep < 5000 {
		t.Errorf("only %d depths are above 0", deep)
	}
}

// P9.2
func TestDepthsByHand(t *testing.T) {
	spreads(t, house(), recipe(list(4), 5, 10, 4), to(320, 450))
	spreads(t, house(), recipe(list(3), 4, 10, 3), to(216, 282))
	spreads(t, house(), recipe(list(1), 4, 10, 4), to(96, 126))
	spreads(t, house(), recipe(list(3), 0, 2, 4), to(32, 36))
	spreads(t, house(), recipe(list(0), 4, 10, 4), to(0, 0))
	spreads(t, house(), recipe(list(3), 4, 10, 0), to(0, 0))
	spreads(t, house(), recipe(list(3), 0, 0, 4), to(0, 0))
	spreads(t, three(), blend(), to(890, 912))
	spreads(t, three(), recipe(list(2, 3, 1), 0, 1, 3), to(100, 101))
	spreads(t, plain(), recipe(list(1), 0, 5, 2), to(500, 500))
	unknown := bare(lot(0, 1000, 10, 0))
	unknown.Wool.Bind, unknown.Wool.Uptake = to(0, 50), to(0, 100)
	spreads(t, unknown, recipe(list(10), 5, 10, 10), to(0, 25000))
	spreads(t, unknown, recipe(list(1), 5, 10, 10), to(0, 10000))
}

func TestDepths(t *testing.T) {
	wider := 0
	some(12, 200, []size{small, few, wide, loose}, func(r *rand.Rand, h shade.House) {
		m := drawRecipe(r, h)
		want := depthsOf(h, m)
		spreads(t, h, m, want)
		if want.Lo < want.Hi {
			wider++
		}
	})
	if wider < 200 {
		t.Errorf("only %d ranges of several depths", wider)
	}
}

// P9.3
func TestHitsByHand(t *testing.T) {
	all := to(0, 100)
	for _, x := range []struct {
		depth, hue shade.Range
	}{{to(288, 378), all}, {to(0, 378), to(54, 54)}, {to(288, 100000), to(0, 54)}, {to(0, 100000), to(54, 100)}, {to(287, 379), to(53, 55)}} {
		hits(t, house(), mixed(), order(x.depth, x.hue))
	}
	hits(t, plain(), recipe(list(1), 0, 5, 2), order(to(500, 500), to(0, 0)))
	hits(t, plain(), recipe(list(1), 2, 0, 2), order(to(500, 500), to(100, 100)))
	hits(t, plain(), recipe(list(0), 0, 0, 0), order(to(0, 0), to(0, 0)))
	hits(t, three(), blend(), order(to(890, 912), to(66, 66)))
}

func TestMissByHand(t *testing.T) {
	all := to(0, 100)
	for _, x := range []struct {
		depth, hue shade.Range
		miss       shade.Truth
	}{
		// Carmine is from 180 to 210; 200 are held with 20 of Bind.
		{to(289, 378), all, truth(list(600), 20, 80)}, {to(289, 289), all, truth(list(600), 20, 80)}, {to(500, 600), all, truth(list(600), 20, 80)}, {to(0, 287), all, truth(list(600), 20, 80)}, {to(0, 0), all, truth(list(600), 20, 80)},
		{to(0, 288), all, truth(list(600), 20, 81)}, {to(288, 290), all, truth(list(600), 20, 81)}, {to(288, 291), all, truth(list(600), 20, 82)}, {to(0, 323), all, truth(list(600), 20, 90)}, {to(0, 324), all, truth(list(604), 20, 90)},
		{to(0, 350), all, truth(list(650), 20, 90)}, {to(0, 359), all, truth(list(667), 20, 90)}, {to(0, 360), all, truth(list(670), 21, 90)}, {to(288, 377), all, truth(list(700), 21, 90)}, {to(289, 377), all, truth(list(600), 20, 80)},
		{to(288, 378), to(0, 53), truth(list(600), 20, 80)}, {to(288, 378), to(55, 100), truth(list(600), 20, 80)}, {to(0, 350), to(0, 53), truth(list(600), 20, 80)}, {to(0, 100000), to(100, 100), truth(list(600), 20, 80)},
	} {
		misses(t, house(), mixed(), order(x.depth, x.hue), x.miss)
	}
	// Of what is not used, or changes nothing, the smallest number comes first.
	h := three()
	h.Lots[2] = lot(5, 900, 1, 0)
	misses(t, h, blend(), order(to(0, 911), all), truth(list(600, 300, 5), 9, 71))
	misses(t, h, recipe(list(2, 0, 0), 1, 10, 2), order(to(0, 659), all), truth(list(600, 298, 5), 10, 70))
	misses(t, h, recipe(list(1, 0, 0), 1, 10, 2), order(to(0, 400), all), truth(list(600, 298, 5), 9, 71))
	misses(t, h, recipe(list(0, 1, 0), 2, 3, 3), order(to(0, 303), all), truth(list(600, 300, 5), 9, 71))
	misses(t, h, recipe(list(0, 0, 1), 0, 10, 3), order(to(0, 911), all), truth(list(600, 298, 900), 9, 71))
	misses(t, h, recipe(list(2, 2, 0), 4, 0, 3), order(to(0, 1100), all), truth(list(600, 298, 5), 11, 71))
	misses(t, h, recipe(list(2, 2, 0), 4, 0, 3), order(to(0, 1014), all), truth(list(600, 298, 5), 11, 70))
	misses(t, h, recipe(list(2, 2, 0), 4, 0, 3), order(to(0, 1013), all), truth(list(600, 298, 5), 10, 71))
	misses(t, h, recipe(list(2, 2, 0), 4, 0, 1), order(to(0, 364), all), truth(list(600, 298, 5), 11, 71))
	h.Lots[1] = lot(298, 298, 3, 2)
	misses(t, h, blend(), order(to(0, 911), all), truth(list(602, 298, 5), 9, 71))
}

// kinds counts where the first miss is.
type kinds struct{ hit, hue, below, first, later, strength, bind, uptake int }

func (k *kinds) count(h shade.House, m shade.Recipe, o shade.Order, s shade.Truth) {
	for i, n := range listOf(s) {
		if unknown := rangesOf(h); n > unknown[i].Lo {
			switch i - len(s.Strength) {
			case 0:
				k.bind++
			case 1:
				k.uptake++
			default:
				k.strength++
			}
		}
	}
	switch depth := depthOf(h, m, s); {
	case !in(o.Hue, hueOf(m)):
		k.hue++
	case depth < o.Depth.Lo:
		k.below++
	case sameTruth(s, firstOf(h)):
		k.first++
	default:
		k.later++
	}
}

func firstOf(h shade.House) (first shade.Truth) {
	truths(h, func(s shade.Truth) bool {
		first = s
		return false
	})
	return first
}

func TestHitsAndMiss(t *testing.T) {
	var k kinds
	some(13, 2000, []size{small, few, wide, loose}, func(r *rand.Rand, h shade.House) {
		m := drawRecipe(r, h)
		o := drawOrder(r, h, m)
		s, found := missOf(h, m, o)
		if !found {
			k.hit++
			hits(t, h, m, o)
			return
		}
		k.count(h, m, o, s)
		misses(t, h, m, o, s)
	})
	if k.hit < 2000 || k.hue < 400 || k.below < 400 || k.first < 150 || k.later < 400 || k.strength < 100 || k.bind < 100 || k.uptake < 200 {
		t.Errorf("too few: %+v", k)
	}
}

// P9.4
func TestBestByHand(t *testing.T) {
	all := to(0, 100)
	finds(t, plain(), order(to(0, 100000), all), recipe(list(0), 0, 0, 0), 0)
	finds(t, plain(), order(to(0, 0), to(0, 0)), recipe(list(0), 0, 0, 0), 0)
	finds(t, plain(), order(to(0, 0), to(1, 100)), recipe(list(0), 1, 0, 0), 3)
	finds(t, plain(), order(to(0, 0), to(1, 99)), recipe(list(0), 1, 1, 0), 4)
	finds(t, plain(), order(to(0, 0), to(1, 25)), recipe(list(0), 1, 9, 0), 12)
	finds(t, plain(), order(to(1, 500), all), recipe(list(1), 0, 1, 1), 6)
	finds(t, plain(), order(to(51, 500), all), recipe(list(1), 0, 1, 2), 7)
	finds(t, plain(), order(to(500, 600), all), recipe(list(1), 0, 5, 2), 11)
	finds(t, plain(), order(to(500, 600), to(100, 100)), recipe(list(1), 2, 0, 2), 12)
	finds(t, plain(), order(to(1000, 1000), to(0, 0)), recipe(list(2), 0, 10, 2), 20)
	finds(t, plain(), order(to(1500, 1500), all), recipe(list(3), 2, 9, 2), 29)
	lacks(t, plain(), order(to(1501, 100000), all))
	lacks(t, plain(), order(to(0, 100000), to(99, 99)))
	lacks(t, plain(), order(to(0, 100000), to(94, 99)))
	lacks(t, plain(), order(to(1001, 1500), to(0, 0)))
	lacks(t, plain(), order(to(1, 49), to(0, 0)))
	// A truth is enough to miss.
	finds(t, house(), order(to(96, 126), to(0, 0)), recipe(list(1), 0, 6, 4), 19)
	finds(t, house(), order(to(97, 126), to(0, 0)), recipe(list(2), 0, 7, 4), 25)
	finds(t, house(), order(to(112, 126), to(0, 0)), recipe(list(2), 0, 7, 4), 25)
	lacks(t, house(), order(to(113, 126), to(0, 0)))
	lacks(t, house(), order(to(112, 125), to(0, 0)))
	lacks(t, house(), order(to(97, 108), all))
}

// Of several recipes that cost the same the first one is best.
func TestFirstOfTheBest(t *testing.T) {
	free := bare(lot(500, 500, 2, 0), lot(250, 250, 4, 0))
	finds(t, free, order(to(50, 50), to(0, 0)), recipe(list(0, 2), 0, 5, 10), 0)
	finds(t, free, order(to(25, 25), to(0, 100)), recipe(list(0, 1), 0, 3, 10), 0)
	finds(t, free, order(to(25, 25), to(1, 100)), recipe(list(0, 1), 1, 0, 10), 0)
	finds(t, free, order(to(24, 26), to(0, 0)), recipe(list(0, 1), 0, 3, 10), 0)
	finds(t, free, order(to(20, 23), to(0, 0)), recipe(list(0, 1), 0, 2, 10), 0)
	finds(t, free, order(to(20, 22), to(0, 0)), recipe(list(0, 1), 0, 2, 10), 0)
	finds(t, free, order(to(21, 22), to(0, 0)), recipe(list(0, 1), 0, 3, 9), 0)
	finds(t, free, order(to(100, 150), to(0, 0)), recipe(list(0, 4), 0, 10, 10), 0)
	finds(t, free, order(to(101, 125), to(0, 99)), recipe(list(1, 3), 1, 8, 10), 0)
	same := bare(lot(500, 500, 1, 7), lot(500, 500, 1, 7), lot(500, 500, 1, 7))
	finds(t, same, order(to(50, 50), to(0, 0)), recipe(list(0, 0, 1), 0, 5, 10), 7)
	finds(t, same, order(to(100, 100), to(0, 0)), recipe(list(0, 1, 1), 0, 10, 10), 14)
	// 3 alum cost as much as 1 tin, and as 1 hour.
	dear := bare(lot(500, 500, 1, 0))
	dear.Full, dear.Tin, dear.Alum, dear.Hour = 2, 3, 1, 3
	finds(t, dear, order(to(15, 25), to(0, 100)), recipe(list(1), 0, 3, 1), 6)
	finds(t, dear, order(to(30, 30), to(0, 100)), recipe(list(1), 0, 3, 2), 9)
	finds(t, dear, order(to(25, 30), to(0, 100)), recipe(list(1), 0, 5, 1), 8)
}

// Of the same least or greatest depth more than one range can be known: a lot whose strength is known exactly hits where another one does not.
func TestBestOfSeveralRanges(t *testing.T) {
	for _, other := range []shade.Range{to(600, 700), to(500, 600), to(599, 610)} {
		h := bare(lot(600, 600, 1, 0), shade.Lot{Strength: other, Stock: 1})
		finds(t, h, order(to(60, 60), to(85, 85)), recipe(list(1, 0), 2, 1, 10), 0)
		h.Lots[0].Price = 10
		finds(t, h, order(to(60, 60), to(85, 85)), recipe(list(1, 0), 2, 1, 10), 10)
		slices.Reverse(h.Lots)
		finds(t, h, order(to(60, 60), to(85, 85)), recipe(list(0, 1), 2, 1, 10), 10)
	}
}

func TestBest(t *testing.T) {
	found, lacked, paid := 0, 0, 0
	some(14, 600, []size{few}, func(r *rand.Rand, h shade.House) {
		m := drawRecipe(r, h)
		o := drawOrder(r, h, m)
		best, can := bestOf(h, o, recipesOf(h))
		if !can {
			lacked++
			lacks(t, h, o)
			return
		}
		found++
		if costOf(h, best) > 0 {
			paid++
		}
		finds(t, h, o, best, costOf(h, best))
	})
	if found < 200 || lacked < 100 || paid < 150 {
		t.Errorf("only %d, of which %d cost something, and %d lack", found, paid, lacked)
	}
}

// ProveRecipe asks only whether what it is given is so, whoever has made it.
func TestProveRecipe(t *testing.T) {
	o := order(to(280, 380), to(50, 60))
	proves(t, house(), mixed(), o, true)
	proves(t, house(), recipe(list(4), 4, 10, 4), o, false)
	proves(t, house(), recipe(list(3), 4, 10, 10), o, true)
	proves(t, plain(), recipe(list(0), 0, 0, 0), order(to(0, 0), to(0, 0)), true)
	proves(t, plain(), recipe(list(3), 5, 10, 10), order(to(0, 100000), to(0, 100)), true)
	for _, cost := range list(math.MinInt, math.MinInt+1, -1, 0, 44) {
		if shade.ProveRecipe(house(), mixed(), o, cost) {
			t.Errorf("ProveRecipe for %d", cost)
		}
	}
	for _, cost := range list(45, 46, math.MaxInt-1, math.MaxInt) {
		if !shade.ProveRecipe(house(), mixed(), o, cost) {
			t.Errorf("ProveRecipe not for %d", cost)
		}
	}
	if e := shade.CheckHouse(house()); e != api.OK {
		t.Errorf("CheckHouse: %v", e)
	}
}
