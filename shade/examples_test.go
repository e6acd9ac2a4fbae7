package shade_test

import (
	"testing"

	"nochez/api"
	"nochez/shade"
)

// dyes checks the depth and the hue of a recipe in a truth.
func dyes(t *testing.T, h shade.House, m shade.Recipe, s shade.Truth, depth, hue int) {
	t.Helper()
	if d, n, e := shade.Dye(h, m, s); d != depth || n != hue || e != api.OK {
		t.Errorf("Dye of %v, %v, %v: %d, %d, %v, not %d, %d", h, m, s, d, n, e, depth, hue)
	}
}

// spreads checks the depths of a recipe in all truths.
func spreads(t *testing.T, h shade.House, m shade.Recipe, want shade.Range) {
	t.Helper()
	if d, e := shade.Depths(h, m); d != want || e != api.OK {
		t.Errorf("Depths of %v, %v: %v, %v, not %v", h, m, d, e, want)
	}
}

// costs checks the cost of a recipe.
func costs(t *testing.T, h shade.House, m shade.Recipe, want int) {
	t.Helper()
	if n, e := shade.Cost(h, m); n != want || e != api.OK {
		t.Errorf("Cost of %v, %v: %d, %v, not %d", h, m, n, e, want)
	}
}

// hits checks that a recipe hits an order.
func hits(t *testing.T, h shade.House, m shade.Recipe, o shade.Order) {
	t.Helper()
	if is, e := shade.Hits(h, m, o); !is || e != api.OK {
		t.Errorf("Hits of %v, %v, %v: %v, %v", h, m, o, is, e)
	}
	if s, e := shade.Miss(h, m, o); !sameTruth(s, shade.Truth{}) || e != api.ErrNone {
		t.Errorf("Miss of %v, %v, %v: %v, %v", h, m, o, s, e)
	}
	proves(t, h, m, o, true)
}

// misses checks that a recipe misses an order, and where it does so first.
func misses(t *testing.T, h shade.House, m shade.Recipe, o shade.Order, want shade.Truth) {
	t.Helper()
	if is, e := shade.Hits(h, m, o); is || e != api.OK {
		t.Errorf("Hits of %v, %v, %v: %v, %v", h, m, o, is, e)
	}
	if s, e := shade.Miss(h, m, o); !sameTruth(s, want) || e != api.OK {
		t.Errorf("Miss of %v, %v, %v: %v, %v, not %v", h, m, o, s, e, want)
	}
	proves(t, h, m, o, false)
}

// proves checks whether a recipe is proved to hit an order, for its cost and about as much.
func proves(t *testing.T, h shade.House, m shade.Recipe, o shade.Order, want bool) {
	t.Helper()
	cost := costOf(h, m)
	for _, n := range list(cost-100000, -1, cost-2, cost-1, cost, cost+1, cost+100000) {
		if shade.ProveRecipe(h, m, o, n) != (want && n >= cost) {
			t.Errorf("ProveRecipe of %v, %v, %v for %d: not %v", h, m, o, n, want && n >= cost)
		}
	}
}

// finds checks the best recipe for an order, and its cost.
func finds(t *testing.T, h shade.House, o shade.Order, want shade.Recipe, cost int) {
	t.Helper()
	if m, n, e := shade.Best(h, o); !sameRecipe(m, want) || n != cost || e != api.OK {
		t.Errorf("Best of %v, %v: %v, %d, %v, not %v, %d", h, o, m, n, e, want, cost)
	}
	if !shade.ProveRecipe(h, want, o, cost) || shade.ProveRecipe(h, want, o, cost-1) {
		t.Errorf("ProveRecipe of %v, %v, %v for %d", h, want, o, cost)
	}
}

// lacks checks that no recipe hits an order.
func lacks(t *testing.T, h shade.House, o shade.Order) {
	t.Helper()
	if m, n, e := shade.Best(h, o); !sameRecipe(m, shade.Recipe{}) || n != 0 || e != api.ErrMiss {
		t.Errorf("Best of %v, %v: %v, %d, %v", h, o, m, n, e)
	}
}

func TestExampleDye(t *testing.T) {
	dyes(t, house(), mixed(), truth(list(600), 20, 80), 288, 54)
	dyes(t, house(), mixed(), truth(list(700), 30, 90), 378, 54)
}

func TestExampleDepths(t *testing.T) {
	spreads(t, house(), mixed(), to(288, 378))
	costs(t, house(), mixed(), 45)
}

func TestExampleHits(t *testing.T) {
	hits(t, house(), mixed(), order(to(280, 380), to(50, 60)))
}

func TestExampleMiss(t *testing.T) {
	misses(t, house(), mixed(), order(to(280, 350), to(50, 60)), truth(list(650), 20, 90))
	misses(t, house(), mixed(), order(to(280, 380), to(55, 60)), truth(list(600), 20, 80))
	dyes(t, house(), mixed(), truth(list(650), 20, 90), 351, 54)
}

func TestExampleBest(t *testing.T) {
	finds(t, plain(), order(to(500, 600), to(0, 0)), recipe(list(1), 0, 5, 2), 11)
	finds(t, plain(), order(to(500, 600), to(60, 100)), recipe(list(1), 1, 2, 2), 11)
	lacks(t, plain(), order(to(2000, 3000), to(0, 100)))
}

// DOC.md's example 9
func TestExampleOfTheDocument(t *testing.T) {
	hits(t, house(), mixed(), order(to(280, 380), to(0, 100)))
	misses(t, house(), mixed(), order(to(280, 350), to(0, 100)), truth(list(650), 20, 90))
}
