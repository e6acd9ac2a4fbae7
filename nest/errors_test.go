package nest_test

import (
	"math"
	"slices"
	"testing"

	"nochez/api"
	"nochez/nest"
)

// changes are changes of the chapter's grove, and the error of the grove after them.
func changes() []change {
	return []change{
		{"none", func(g *nest.Grove) {}, api.OK},
		{"8 pads", func(g *nest.Grove) { g.Pads = make([]nest.Pad, 8) }, api.OK},
		{"9 pads", func(g *nest.Grove) { g.Pads = make([]nest.Pad, 9) }, api.ErrLimit},
		{"16 joins", func(g *nest.Grove) { *g = full() }, api.OK},
		{"17 joins", func(g *nest.Grove) { *g = full(); g.Joins = append(g.Joins, nest.Join{A: 6, B: 7}) }, api.ErrLimit},
		{"17 wrong joins", func(g *nest.Grove) { g.Joins = make([]nest.Join, 17) }, api.ErrLimit},
		{"16 wrong joins", func(g *nest.Grove) { g.Joins = make([]nest.Join, 16) }, api.ErrArg},
		{"3 kinds", func(g *nest.Grove) { g.Kinds = make([]nest.Kind, 3) }, api.OK},
		{"4 kinds", func(g *nest.Grove) { g.Kinds = make([]nest.Kind, 4) }, api.ErrLimit},
		{"4 kinds, no pads", func(g *nest.Grove) { g.Kinds, g.Pads = make([]nest.Kind, 4), nil }, api.ErrLimit},
		{"17 joins, a wrong pad", func(g *nest.Grove) { g.Joins, g.Pads[0].Need = make([]nest.Join, 17), -1 }, api.ErrLimit},
		{"no pads", func(g *nest.Grove) { g.Pads, g.Joins = nil, nil }, api.ErrArg},
		{"no pads, but joins", func(g *nest.Grove) { g.Pads = nil }, api.ErrArg},
		{"one pad", func(g *nest.Grove) { g.Pads, g.Joins = g.Pads[:1], nil }, api.OK},
		{"no joins", func(g *nest.Grove) { g.Joins = nil }, api.OK},
		{"no kinds", func(g *nest.Grove) { g.Kinds = nil }, api.ErrArg},
		{"Need -1", func(g *nest.Grove) { g.Pads[4].Need = -1 }, api.ErrArg},
		{"Need 0", func(g *nest.Grove) { g.Pads[4].Need = 0 }, api.OK},
		{"Need as Room", func(g *nest.Grove) { g.Pads[4].Need = 40 }, api.OK},
		{"Need above Room", func(g *nest.Grove) { g.Pads[4].Need = 41 }, api.ErrArg},
		{"Room 0", func(g *nest.Grove) { g.Pads[4] = nest.Pad{} }, api.OK},
		{"Room -1", func(g *nest.Grove) { g.Pads[4] = nest.Pad{Need: -1, Room: -1} }, api.ErrArg},
		{"Room 1000", func(g *nest.Grove) { g.Pads[4] = nest.Pad{Need: 1000, Room: 1000} }, api.OK},
		{"Room 1001", func(g *nest.Grove) { g.Pads[4].Room = 1001 }, api.ErrArg},
		{"Need and Room 1001", func(g *nest.Grove) { g.Pads[4] = nest.Pad{Need: 1001, Room: 1001} }, api.ErrArg},
		{"A -1", func(g *nest.Grove) { g.Joins[3].A = -1 }, api.ErrArg},
		{"B -1", func(g *nest.Grove) { g.Joins[3].B = -1 }, api.ErrArg},
		{"A 5", func(g *nest.Grove) { g.Joins[3].A = 5 }, api.ErrArg},
		{"B 5", func(g *nest.Grove) { g.Joins[3].B = 5 }, api.ErrArg},
		{"A is B", func(g *nest.Grove) { g.Joins[3] = nest.Join{A: 2, B: 2} }, api.ErrArg},
		{"B first", func(g *nest.Grove) { g.Joins[3] = nest.Join{A: 4, B: 3} }, api.OK},
		{"a join twice", func(g *nest.Grove) { g.Joins = append(g.Joins, nest.Join{A: 1, B: 2}) }, api.ErrArg},
		{"a join both ways", func(g *nest.Grove) { g.Joins = append(g.Joins, nest.Join{A: 2, B: 1}) }, api.ErrArg},
		{"another join", func(g *nest.Grove) { g.Joins = append(g.Joins, nest.Join{A: 4, B: 0}) }, api.OK},
		{"Young -1", func(g *nest.Grove) { g.Kinds[0].Young = -1 }, api.ErrArg},
		{"Young 0", func(g *nest.Grove) { g.Kinds[0].Young = 0 }, api.OK},
		{"Young 1000", func(g *nest.Grove) { g.Kinds[0].Young = 1000 }, api.OK},
		{"Young 1001", func(g *nest.Grove) { g.Kinds[0].Young = 1001 }, api.ErrArg},
		{"Own upside down", func(g *nest.Grove) { g.Kinds[0].Own = to(5, 4) }, api.ErrArg},
		{"Own -1", func(g *nest.Grove) { g.Kinds[0].Own.Lo = -1 }, api.ErrArg},
		{"Own 1000", func(g *nest.Grove) { g.Kinds[0].Own = to(0, 1000) }, api.OK},
		{"Own 1001", func(g *nest.Grove) { g.Kinds[0].Own.Hi = 1001 }, api.ErrArg},
		{"Near upside down", func(g *nest.Grove) { g.Kinds[0].Near = to(5, 4) }, api.ErrArg},
		{"Near -1", func(g *nest.Grove) { g.Kinds[0].Near.Lo = -1 }, api.ErrArg},
		{"Near 1000", func(g *nest.Grove) { g.Kinds[0].Near = to(1000, 1000) }, api.OK},
		{"Near 1001", func(g *nest.Grove) { g.Kinds[0].Near.Hi = 1001 }, api.ErrArg},
		{"the last kind wrong", func(g *nest.Grove) { g.Kinds = []nest.Kind{fifty(), twenty(), {Young: 1001}} }, api.ErrArg},
		{"the greatest numbers", func(g *nest.Grove) {
			g.Pads[0].Room, g.Kinds[0].Young, g.Joins[0].A = math.MaxInt, math.MaxInt, math.MaxInt
		}, api.ErrArg},
		{"the smallest numbers", func(g *nest.Grove) {
			g.Pads[0].Need, g.Kinds[0].Young, g.Joins[0].A = math.MinInt, math.MinInt, math.MinInt
		}, api.ErrArg},
	}
}

type change struct {
	name string
	make func(g *nest.Grove)
	want api.Errno
}

// full has as many pads, joins and kinds as there may be.
func full() nest.Grove {
	g := row(8, fifty(), twenty(), tiny())
	for p := range 6 {
		g.Joins = append(g.Joins, nest.Join{A: p + 2, B: p})
	}
	for p := range 3 {
		g.Joins = append(g.Joins, nest.Join{A: p, B: p + 3})
	}
	return g
}

func TestCheckGrove(t *testing.T) {
	for _, x := range changes() {
		g := row(5, fifty())
		x.make(&g)
		if e := nest.CheckGrove(g); e != x.want {
			t.Errorf("%s: CheckGrove of %v: %v", x.name, g, e)
		}
	}
}

// answers has the results of all calls but CheckGrove.
type answers struct {
	lists [][]int
	flags [][]bool
	nests int
	e     []api.Errno
	proof []bool
}

// ask calls everything that has a layout, and then everything else.
func ask(g nest.Grove, layout []int, pad int) (with, without answers) {
	bounds, e1 := nest.Bounds(g, layout)
	missed, overfull, e2 := nest.Faults(g, layout)
	low, e3 := nest.Worst(g, layout, pad, false)
	high, e4 := nest.Worst(g, layout, pad, true)
	show, e5 := nest.Show(g, layout)
	spare, e6 := nest.Spare(g, layout)
	with.lists = append(append(append([][]int{missed, overfull, spare, make([]int, len(bounds))}, low...), high...), show...)
	with.e = []api.Errno{e1, e2, e5, e6, e3, e4}
	with.proof = []bool{nest.ProveLayout(g, layout, 8), nest.ProveSpread(g, layout, make([][]int, len(layout)))}
	fits, e7 := nest.Fits(g)
	best, nests, e8 := nest.Best(g)
	apart, e9 := nest.Apart(g)
	without.lists, without.flags, without.nests = [][]int{best, apart}, fits, nests
	without.e = []api.Errno{e7, e8, e9}
	without.proof = []bool{nest.ProveApart(g, nil)}
	return with, without
}

// empty reports whether there is no result beside the errors.
func (a answers) empty() bool {
	some := func(l []int) bool { return len(l) > 0 }
	return !slices.ContainsFunc(a.lists, some) && len(a.flags) == 0 && a.nests == 0 && !slices.Contains(a.proof, true)
}

func all(l []api.Errno, want api.Errno) bool {
	return !slices.ContainsFunc(l, func(e api.Errno) bool { return e != want })
}

// A wrong grove counts before a wrong layout, and this before a wrong pad (R1); with an error all else is zero (R2).
func TestErrorOfTheGrove(t *testing.T) {
	for _, x := range changes() {
		if x.want == api.OK {
			continue
		}
		g := row(5, fifty())
		x.make(&g)
		for _, layout := range [][]int{list(no, 0, no, 0, no), list(no, no, no, no, no), list(7), nil} {
			with, without := ask(g, layout, -1)
			if !all(with.e, x.want) || !all(without.e, x.want) || !with.empty() || !without.empty() {
				t.Errorf("%s, %v: %v, %v", x.name, layout, with, without)
			}
		}
	}
}

func TestErrorOfTheLayout(t *testing.T) {
	g := row(5, fifty(), twenty(), tiny())
	g.Pads[2].Need = 0
	for _, layout := range [][]int{
		nil, {}, {no}, {no, 0, no, 0}, {no, 0, no, 0, no, no}, {no, 3, no, 0, no}, {no, 0, no, 0, -2}, {no, 0, no, 0, 2}, {2, no, no, no, no},
		{no, 0, no, 0, math.MaxInt}, {math.MinInt, 0, no, 0, no}, make([]int, 9),
	} {
		for _, pad := range list(0, -1, 5) {
			if with, _ := ask(g, layout, pad); !all(with.e, api.ErrRange) || !with.empty() {
				t.Errorf("%v, %d: %v", layout, pad, with)
			}
		}
	}
}

func TestErrorOfThePad(t *testing.T) {
	for _, pad := range list(-1, 5, 8, math.MinInt, math.MaxInt) {
		for _, layout := range [][]int{{no, 0, no, 0, no}, {no, no, no, no, no}} {
			for _, high := range []bool{false, true} {
				if l, e := nest.Worst(row(5, fifty()), layout, pad, high); len(l) != 0 || e != api.ErrRange {
					t.Errorf("Worst of %v, %d: %v, %v", layout, pad, l, e)
				}
			}
		}
	}
}

func TestErrorOfShowAndBest(t *testing.T) {
	if l, e := nest.Show(row(5, fifty()), list(no, no, no, no, no)); len(l) != 0 || e != api.ErrFail {
		t.Errorf("Show: %v, %v", l, e)
	}
	for _, g := range []nest.Grove{row(1, fifty()), row(5, tiny()), row(2, nest.Kind{Young: 41, Own: to(41, 41)})} {
		if l, n, e := nest.Best(g); len(l) != 0 || n != 0 || e != api.ErrMiss {
			t.Errorf("Best of %v: %v, %d, %v", g, l, n, e)
		}
	}
}
