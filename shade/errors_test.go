package shade_test

import (
	"math"
	"slices"
	"testing"

	"nochez/api"
	"nochez/shade"
)

type change struct {
	name string
	make func(h *shade.House)
	want api.Errno
}

// changesOfLots are changes of the lots of the house three, and its error after them.
func changesOfLots() []change {
	return []change{
		{"none", func(h *shade.House) {}, api.OK},
		{"nothing", func(h *shade.House) { *h = shade.House{} }, api.ErrArg},
		{"no lots", func(h *shade.House) { h.Lots = nil }, api.ErrArg},
		{"1 lot", func(h *shade.House) { h.Lots = h.Lots[:1] }, api.OK},
		{"4 lots", func(h *shade.House) { h.Lots = slices.Repeat(h.Lots[:1], 4) }, api.ErrLimit},
		{"4 wrong lots", func(h *shade.House) { h.Lots = slices.Repeat([]shade.Lot{lot(1, 0, -1, -1)}, 4) }, api.ErrLimit},
		{"4 lots, nothing else", func(h *shade.House) { *h = shade.House{Lots: slices.Repeat(h.Lots[:1], 4)} }, api.ErrLimit},
		{"300 lots", func(h *shade.House) { h.Lots = make([]shade.Lot, 300) }, api.ErrLimit},
		{"a lot of zeros", func(h *shade.House) { h.Lots[0] = shade.Lot{} }, api.OK},
		{"a Strength from -1", func(h *shade.House) { h.Lots[0].Strength = to(-1, 600) }, api.ErrArg},
		{"a Strength to 1001", func(h *shade.House) { h.Lots[0].Strength = to(600, 1001) }, api.ErrArg},
		{"a Strength upside down", func(h *shade.House) { h.Lots[0].Strength = to(601, 600) }, api.ErrArg},
		{"a Strength below 0", func(h *shade.House) { h.Lots[1].Strength = to(-2, -1) }, api.ErrArg},
		{"a Strength above 1000", func(h *shade.House) { h.Lots[1].Strength = to(1001, 1002) }, api.ErrArg},
		{"the Strength 0", func(h *shade.House) { h.Lots[1].Strength = to(0, 0) }, api.OK},
		{"the Strength 1000", func(h *shade.House) { h.Lots[1].Strength = to(1000, 1000) }, api.OK},
		{"any Strength", func(h *shade.House) { h.Lots[2].Strength = to(0, 1000) }, api.OK},
		{"the last Strength from -1", func(h *shade.House) { h.Lots[2].Strength = to(-1, 0) }, api.ErrArg},
		{"the last Strength to 1001", func(h *shade.House) { h.Lots[2].Strength = to(1000, 1001) }, api.ErrArg},
		{"the last Strength upside down", func(h *shade.House) { h.Lots[2].Strength = to(1000, 0) }, api.ErrArg},
		{"all numbers", func(h *shade.House) { h.Lots[1].Strength = to(math.MinInt, math.MaxInt) }, api.ErrArg},
		{"all numbers, upside down", func(h *shade.House) { h.Lots[1].Strength = to(math.MaxInt, math.MinInt) }, api.ErrArg},
		{"the Stock -1", func(h *shade.House) { h.Lots[0].Stock = -1 }, api.ErrArg},
		{"the Stock 0", func(h *shade.House) { h.Lots[2].Stock = 0 }, api.OK},
		{"the Stock 10", func(h *shade.House) { h.Lots[0].Stock = 10 }, api.OK},
		{"the Stock 11", func(h *shade.House) { h.Lots[0].Stock = 11 }, api.ErrArg},
		{"the last Stock -1", func(h *shade.House) { h.Lots[2].Stock = -1 }, api.ErrArg},
		{"the last Stock 11", func(h *shade.House) { h.Lots[2].Stock = 11 }, api.ErrArg},
		{"the greatest Stock", func(h *shade.House) { h.Lots[1].Stock = math.MaxInt }, api.ErrArg},
		{"the smallest Stock", func(h *shade.House) { h.Lots[1].Stock = math.MinInt }, api.ErrArg},
		{"the Price -1", func(h *shade.House) { h.Lots[0].Price = -1 }, api.ErrArg},
		{"the Price 0", func(h *shade.House) { h.Lots[0].Price = 0 }, api.OK},
		{"the Price 100", func(h *shade.House) { h.Lots[0].Price = 100 }, api.OK},
		{"the Price 101", func(h *shade.House) { h.Lots[0].Price = 101 }, api.ErrArg},
		{"the last Price -1", func(h *shade.House) { h.Lots[2].Price = -1 }, api.ErrArg},
		{"the last Price 101", func(h *shade.House) { h.Lots[2].Price = 101 }, api.ErrArg},
		{"the greatest Price", func(h *shade.House) { h.Lots[1].Price = math.MaxInt }, api.ErrArg},
	}
}

// changesOfWool are changes of the wool, of Full and of the prices.
func changesOfWool() []change {
	return []change{
		{"no wool", func(h *shade.House) { h.Wool = shade.Wool{} }, api.ErrArg},
		{"the Weight -1", func(h *shade.House) { h.Wool.Weight = -1 }, api.ErrArg},
		{"the Weight 0", func(h *shade.House) { h.Wool.Weight = 0 }, api.ErrArg},
		{"the Weight 1", func(h *shade.House) { h.Wool.Weight = 1 }, api.OK},
		{"the Weight 100", func(h *shade.House) { h.Wool.Weight = 100 }, api.OK},
		{"the Weight 101", func(h *shade.House) { h.Wool.Weight = 101 }, api.ErrArg},
		{"the greatest Weight", func(h *shade.House) { h.Wool.Weight = math.MaxInt }, api.ErrArg},
		{"a Bind from -1", func(h *shade.House) { h.Wool.Bind = to(-1, 20) }, api.ErrArg},
		{"a Bind to 51", func(h *shade.House) { h.Wool.Bind = to(20, 51) }, api.ErrArg},
		{"a Bind upside down", func(h *shade.House) { h.Wool.Bind = to(21, 20) }, api.ErrArg},
		{"a Bind below 0", func(h *shade.House) { h.Wool.Bind = to(-2, -1) }, api.ErrArg},
		{"a Bind above 50", func(h *shade.House) { h.Wool.Bind = to(51, 52) }, api.ErrArg},
		{"any Bind", func(h *shade.House) { h.Wool.Bind = to(0, 50) }, api.OK},
		{"the Bind 0", func(h *shade.House) { h.Wool.Bind = to(0, 0) }, api.OK},
		{"the Bind 50", func(h *shade.House) { h.Wool.Bind = to(50, 50) }, api.OK},
		{"an Uptake from -1", func(h *shade.House) { h.Wool.Uptake = to(-1, 80) }, api.ErrArg},
		{"an Uptake to 101", func(h *shade.House) { h.Wool.Uptake = to(80, 101) }, api.ErrArg},
		{"an Uptake upside down", func(h *shade.House) { h.Wool.Uptake = to(81, 80) }, api.ErrArg},
		{"an Uptake below 0", func(h *shade.House) { h.Wool.Uptake = to(-2, -1) }, api.ErrArg},
		{"an Uptake above 100", func(h *shade.House) { h.Wool.Uptake = to(101, 102) }, api.ErrArg},
		{"any Uptake", func(h *shade.House) { h.Wool.Uptake = to(0, 100) }, api.OK},
		{"the Uptake 0", func(h *shade.House) { h.Wool.Uptake = to(0, 0) }, api.OK},
		{"the Uptake 100", func(h *shade.House) { h.Wool.Uptake = to(100, 100) }, api.OK},
		{"the Full -1", func(h *shade.House) { h.Full = -1 }, api.ErrArg},
		{"the Full 0", func(h *shade.House) { h.Full = 0 }, api.ErrArg},
		{"the Full 1", func(h *shade.House) { h.Full = 1 }, api.OK},
		{"the Full 10", func(h *shade.House) { h.Full = 10 }, api.OK},
		{"the Full 11", func(h *shade.House) { h.Full = 11 }, api.ErrArg},
		{"the smallest Full", func(h *shade.House) { h.Full = math.MinInt }, api.ErrArg},
		{"no prices", func(h *shade.House) { h.Tin, h.Alum, h.Hour = 0, 0, 0 }, api.OK},
		{"the greatest prices", func(h *shade.House) { h.Tin, h.Alum, h.Hour = 100, 100, 100 }, api.OK},
		{"the Tin -1", func(h *shade.House) { h.Tin = -1 }, api.ErrArg},
		{"the Tin 101", func(h *shade.House) { h.Tin = 101 }, api.ErrArg},
		{"the Alum -1", func(h *shade.House) { h.Alum = -1 }, api.ErrArg},
		{"the Alum 101", func(h *shade.House) { h.Alum = 101 }, api.ErrArg},
		{"the Hour -1", func(h *shade.House) { h.Hour = -1 }, api.ErrArg},
		{"the Hour 101", func(h *shade.House) { h.Hour = 101 }, api.ErrArg},
		{"prices without end", func(h *shade.House) { h.Tin, h.Alum, h.Hour = math.MaxInt, math.MaxInt, math.MinInt }, api.ErrArg},
	}
}

func changes() []change { return slices.Concat(changesOfLots(), changesOfWool()) }

// P9.1
func TestCheckHouse(t *testing.T) {
	for _, y := range changes() {
		h := three()
		y.make(&h)
		if e := shade.CheckHouse(h); e != y.want {
			t.Errorf("%s: CheckHouse of %v: %v", y.name, h, e)
		}
	}
}

// asked is what a house is asked for.
type asked struct {
	r shade.Recipe
	t shade.Truth
	o shade.Order
}

// fitting is what can be asked of the house three.
func fitting() asked {
	return asked{r: blend(), t: truth(list(601, 299, 0), 10, 71), o: order(to(0, 1000), to(0, 100))}
}

// answer has the error of a call, and whether all its other results are zero values.
type answer struct {
	call string
	e    api.Errno
	zero bool
}

// The calls of ask, by their indexes.
const (
	callCheck = iota
	callDye
	callDepths
	callHits
	callMiss
	callCost
	callBest
)

// ask calls all that has an error.
func ask(h shade.House, y asked) []answer {
	depth, hue, e1 := shade.Dye(h, y.r, y.t)
	depths, e2 := shade.Depths(h, y.r)
	is, e3 := shade.Hits(h, y.r, y.o)
	miss, e4 := shade.Miss(h, y.r, y.o)
	n, e5 := shade.Cost(h, y.r)
	best, cost, e6 := shade.Best(h, y.o)
	return []answer{
		{"CheckHouse", shade.CheckHouse(h), true}, {"Dye", e1, depth == 0 && hue == 0}, {"Depths", e2, depths == to(0, 0)}, {"Hits", e3, !is},
		{"Miss", e4, sameTruth(miss, shade.Truth{})}, {"Cost", e5, n == 0}, {"Best", e6, sameRecipe(best, shade.Recipe{}) && cost == 0},
	}
}

// wrongRecipes are none of the house three.
func wrongRecipes() (wrong []shade.Recipe) {
	for _, grain := range [][]int{nil, list(1), list(1, 1), list(1, 1, 0, 0), list(1, 1, 1, 1), list(3, 1, 0), list(1, 4, 0), list(1, 1, 2), list(-1, 1, 0), list(1, -1, 0), list(1, 1, -1), list(math.MaxInt, 0, 0), list(0, math.MinInt, 0)} {
		wrong = append(wrong, recipe(grain, 2, 3, 3))
	}
	for _, n := range list(-1, math.MaxInt, math.MinInt) {
		wrong = append(wrong, recipe(list(1, 1, 0), n, 3, 3), recipe(list(1, 1, 0), 2, n, 3), recipe(list(1, 1, 0), 2, 3, n))
	}
	return append(wrong, shade.Recipe{}, recipe(list(1, 1, 0), 6, 3, 3), recipe(list(1, 1, 0), 2, 11, 3), recipe(list(1, 1, 0), 2, 3, 11))
}

// wrongTruths are none of the house three.
func wrongTruths() (wrong []shade.Truth) {
	for _, strength := range [][]int{nil, list(601), list(601, 299), list(601, 299, 0, 0), list(601, 299, 0, 0, 0), list(601, 299, 0, 10, 71), list(599, 299, 0), list(604, 299, 0), list(601, 297, 0), list(601, 301, 0), list(601, 299, -1), list(601, 299, 1), list(299, 601, 0), list(math.MaxInt, 299, 0), list(601, math.MinInt, 0)} {
		wrong = append(wrong, truth(strength, 10, 71))
	}
	for _, n := range list(0, 8, 12, -10, math.MaxInt, math.MinInt) {
		wrong = append(wrong, truth(list(601, 299, 0), n, 71))
	}
	for _, n := range list(0, 69, 72, -70, math.MaxInt, math.MinInt) {
		wrong = append(wrong, truth(list(601, 299, 0), 10, n))
	}
	return append(wrong, shade.Truth{})
}

// wrongOrders are not valid.
func wrongOrders() (wrong []shade.Order) {
	for _, depth := range []shade.Range{to(1, 0), to(1000, 999), to(-1, 1000), to(-2, -1), to(0, 100001), to(100001, 100001), to(math.MinInt, math.MaxInt), to(math.MaxInt, math.MinInt)} {
		wrong = append(wrong, order(depth, to(0, 100)))
	}
	for _, hue := range []shade.Range{to(1, 0), to(100, 99), to(-1, 100), to(-2, -1), to(0, 101), to(101, 101), to(math.MinInt, math.MaxInt), to(math.MaxInt, math.MinInt)} {
		wrong = append(wrong, order(to(0, 1000), hue))
	}
	return wrong
}

// A wrong house counts before all else (R1); with an error all else is zero (R2).
func TestErrorOfTheHouse(t *testing.T) {
	for _, y := range changes() {
		if y.want == api.OK {
			continue
		}
		h := three()
		y.make(&h)
		more := []asked{fitting(), {}, {wrongRecipes()[0], wrongTruths()[0], wrongOrders()[0]}, {blend(), wrongTruths()[3], wrongOrders()[9]}, {mixed(), truth(list(600), 20, 80), fitting().o}}
		for _, z := range more {
			for _, a := range ask(h, z) {
				if a.e != y.want || !a.zero {
					t.Errorf("%s, %v: %v", y.name, z, a)
				}
			}
			for _, cost := range list(0, 100, math.MaxInt) {
				if shade.ProveRecipe(h, z.r, z.o, cost) {
					t.Errorf("%s, %v: ProveRecipe for %d", y.name, z, cost)
				}
			}
		}
	}
}

// answers checks that some calls return an error and nothing else, and the other ones no error.
func answers(t *testing.T, h shade.House, y asked, want api.Errno, calls ...int) {
	t.Helper()
	for i, a := range ask(h, y) {
		switch wrong := slices.Contains(calls, i); {
		case wrong && (a.e != want || !a.zero):
			t.Errorf("%v, %v: %v, not %v", h, y, a, want)
		case !wrong && a.e != api.OK && i != callMiss:
			t.Errorf("%v, %v: %v", h, y, a)
		}
	}
}

func TestErrorOfTheRecipe(t *testing.T) {
	for _, r := range wrongRecipes() {
		y := fitting()
		y.r = r
		answers(t, three(), y, api.ErrRange, callDye, callDepths, callHits, callMiss, callCost)
		if shade.ProveRecipe(three(), r, y.o, math.MaxInt) {
			t.Errorf("ProveRecipe of %v", r)
		}
		y.t, y.o = wrongTruths()[0], wrongOrders()[0]
		answers(t, three(), y, api.ErrRange, callDye, callDepths, callHits, callMiss, callCost, callBest)
	}
}

func TestErrorOfTheTruth(t *testing.T) {
	for _, s := range wrongTruths() {
		y := fitting()
		y.t = s
		answers(t, three(), y, api.ErrRange, callDye)
	}
}

func TestErrorOfTheOrder(t *testing.T) {
	for _, o := range wrongOrders() {
		y := fitting()
		y.o = o
		answers(t, three(), y, api.ErrRange, callHits, callMiss, callBest)
		if shade.ProveRecipe(three(), y.r, o, math.MaxInt) {
			t.Errorf("ProveRecipe of %v", o)
		}
	}
}

// What is just allowed has no error.
func TestJustAllowed(t *testing.T) {
	for _, r := range []shade.Recipe{recipe(list(0, 0, 0), 0, 0, 0), recipe(list(2, 3, 1), 5, 10, 10), recipe(list(2, 0, 0), 0, 10, 0), recipe(list(0, 3, 0), 5, 0, 10), recipe(list(0, 0, 1), 0, 0, 10)} {
		for _, s := range []shade.Truth{truth(list(600, 298, 0), 9, 70), truth(list(603, 300, 0), 11, 71), truth(list(603, 298, 0), 11, 70)} {
			for _, o := range []shade.Order{order(to(0, 100000), to(0, 100)), order(to(0, 0), to(0, 0)), order(to(0, 1), to(0, 99))} {
				answers(t, three(), asked{r, s, o}, api.OK)
			}
		}
	}
	for _, o := range []shade.Order{order(to(100000, 100000), to(100, 100)), order(to(100000, 100000), to(0, 100))} {
		lacks(t, three(), o)
		misses(t, three(), blend(), o, truth(list(600, 298, 0), 9, 70))
	}
}

// Miss has an error if the recipe hits, and Best if no recipe does; nothing else has.
func TestErrorOfNothing(t *testing.T) {
	y := fitting()
	answers(t, three(), y, api.ErrNone, callMiss)
	y.o = order(to(2000, 3000), to(0, 100))
	answers(t, three(), y, api.ErrMiss, callBest)
	misses(t, three(), y.r, y.o, truth(list(600, 298, 0), 9, 70))
	y.o = order(to(0, 1000), to(0, 0))
	answers(t, three(), y, api.OK)
	y.o = order(to(1, 1000), to(88, 89)) // 5 tin and 2 alum have the hue 88
	answers(t, three(), y, api.OK)
	y.o = order(to(0, 1000), to(89, 89))
	answers(t, three(), y, api.ErrMiss, callBest)
}
