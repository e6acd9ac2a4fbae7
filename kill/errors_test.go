package kill_test

import (
	"math"
	"reflect"
	"slices"
	"testing"

	"nochez/api"
	"nochez/kill"
)

type change struct {
	name string
	make func(x *kill.House)
	want api.Errno
}

// changes are changes of the house two, and its error after them.
func changes() []change {
	return []change{
		{"none", func(x *kill.House) {}, api.OK},
		{"nothing", func(x *kill.House) { *x = kill.House{} }, api.ErrArg},
		{"no places", func(x *kill.House) { x.Places = nil }, api.ErrArg},
		{"3 places", func(x *kill.House) { x.Places = append(x.Places, x.Places[0]) }, api.OK},
		{"4 places", func(x *kill.House) { x.Places = append(x.Places, x.Places...) }, api.ErrLimit},
		{"4 wrong places", func(x *kill.House) { x.Places = make([]kill.Place, 4) }, api.ErrLimit},
		{"4 places, no lots", func(x *kill.House) { x.Places, x.Lots = make([]kill.Place, 4), nil }, api.ErrLimit},
		{"4 places, no steps", func(x *kill.House) { x.Places, x.Steps = make([]kill.Place, 4), 0 }, api.ErrLimit},
		{"no lots", func(x *kill.House) { x.Lots = nil }, api.ErrArg},
		{"4 lots", func(x *kill.House) { x.Lots = append(x.Lots, x.Lots...) }, api.ErrLimit},
		{"4 wrong lots", func(x *kill.House) { x.Lots = make([]kill.Lot, 4) }, api.ErrLimit},
		{"4 lots, a wrong place", func(x *kill.House) { x.Lots, x.Places[0].Room = make([]kill.Lot, 4), 0 }, api.ErrLimit},
		{"steps -1", func(x *kill.House) { x.Steps = -1 }, api.ErrArg},
		{"steps 0", func(x *kill.House) { x.Steps = 0 }, api.ErrArg},
		{"steps 6", func(x *kill.House) { x.Steps = 6 }, api.ErrLimit},
		{"steps 6, a wrong lot", func(x *kill.House) { x.Steps, x.Lots[0].Dry = 6, 0 }, api.ErrLimit},
		{"steps 6, no places", func(x *kill.House) { x.Steps, x.Places = 6, nil }, api.ErrLimit},
		{"the most steps", func(x *kill.House) { x.Steps = math.MaxInt }, api.ErrLimit},
		{"the fewest steps", func(x *kill.House) { x.Steps = math.MinInt }, api.ErrArg},
		{"room -1", func(x *kill.House) { x.Places[0].Room = -1 }, api.ErrArg},
		{"room 0", func(x *kill.House) { x.Places[1].Room = 0 }, api.ErrArg},
		{"room 3", func(x *kill.House) { x.Places[0].Room = 3 }, api.OK},
		{"room 4", func(x *kill.House) { x.Places[0].Room = 4 }, api.ErrArg},
		{"the most room", func(x *kill.House) { x.Places[1].Room = math.MaxInt }, api.ErrArg},
		{"kill -1", func(x *kill.House) { x.Places[0].Kill = -1 }, api.ErrArg},
		{"kill 0", func(x *kill.House) { x.Places[0].Kill = 0 }, api.OK},
		{"kill 5", func(x *kill.House) { x.Places[0].Kill = 5 }, api.OK},
		{"kill 6", func(x *kill.House) { x.Places[1].Kill = 6 }, api.ErrArg},
		{"the greatest Kill", func(x *kill.House) { x.Places[1].Kill = math.MaxInt }, api.ErrArg},
		{"the smallest Kill", func(x *kill.House) { x.Places[0].Kill = math.MinInt }, api.ErrArg},
		{"colour 0 of a place", func(x *kill.House) { x.Places[0].Colour = 0 }, api.ErrArg},
		{"colour 2 of a place", func(x *kill.House) { x.Places[0].Colour = 2 }, api.OK},
		{"colour 3 of a place", func(x *kill.House) { x.Places[1].Colour = 3 }, api.ErrArg},
		{"colour 255 of a place", func(x *kill.House) { x.Places[1].Colour = 255 }, api.ErrArg},
		{"colour 0 of a place that kills nothing", func(x *kill.House) { x.Places[0].Kill, x.Places[0].Colour = 0, 0 }, api.ErrArg},
		{"loss from -1", func(x *kill.House) { x.Places[0].Loss = to(-1, 200) }, api.ErrArg},
		{"loss 0", func(x *kill.House) { x.Places[0].Loss = to(0, 0) }, api.OK},
		{"loss 1000", func(x *kill.House) { x.Places[1].Loss = to(1000, 1000) }, api.OK},
		{"loss to 1001", func(x *kill.House) { x.Places[1].Loss = to(300, 1001) }, api.ErrArg},
		{"loss upside down", func(x *kill.House) { x.Places[1].Loss = to(301, 300) }, api.ErrArg},
		{"loss of all numbers", func(x *kill.House) { x.Places[0].Loss = to(math.MinInt, math.MaxInt) }, api.ErrArg},
		{"dry -1", func(x *kill.House) { x.Lots[0].Dry = -1 }, api.ErrArg},
		{"dry 0", func(x *kill.House) { x.Lots[1].Dry = 0 }, api.ErrArg},
		{"dry 1", func(x *kill.House) { x.Lots[0].Dry = 1 }, api.OK},
		{"dry 1000", func(x *kill.House) { x.Lots[0].Dry = 1000 }, api.OK},
		{"dry 1001", func(x *kill.House) { x.Lots[0].Dry = 1001 }, api.ErrArg},
		{"the greatest Dry", func(x *kill.House) { x.Lots[1].Dry = math.MaxInt }, api.ErrArg},
		{"water from -1", func(x *kill.House) { x.Lots[0].Water = to(-1, 110) }, api.ErrArg},
		{"water 0", func(x *kill.House) { x.Lots[0].Water = to(0, 0) }, api.OK},
		{"water 1000", func(x *kill.House) { x.Lots[0].Water = to(1000, 1000) }, api.OK},
		{"water to 1001", func(x *kill.House) { x.Lots[1].Water = to(60, 1001) }, api.ErrArg},
		{"water above 1000", func(x *kill.House) { x.Lots[1].Water = to(1001, 1001) }, api.ErrArg},
		{"water upside down", func(x *kill.House) { x.Lots[1].Water = to(61, 60) }, api.ErrArg},
		{"water of all numbers", func(x *kill.House) { x.Lots[1].Water = to(math.MinInt, math.MaxInt) }, api.ErrArg},
		{"colour 2 of a lot", func(x *kill.House) { x.Lots[1].Colour = 2 }, api.OK},
		{"colour 3 of a lot", func(x *kill.House) { x.Lots[1].Colour = 3 }, api.ErrArg},
		{"colour 255 of a lot", func(x *kill.House) { x.Lots[0].Colour = 255 }, api.ErrArg},
		{"limit -1", func(x *kill.House) { x.Lots[0].Limit = -1 }, api.ErrArg},
		{"limit 0", func(x *kill.House) { x.Lots[0].Limit = 0 }, api.OK},
		{"limit 1001", func(x *kill.House) { x.Lots[1].Limit = 1001 }, api.ErrArg},
		{"the greatest Limit", func(x *kill.House) { x.Lots[1].Limit = math.MaxInt }, api.ErrArg},
		{"the smallest Limit", func(x *kill.House) { x.Lots[1].Limit = math.MinInt }, api.ErrArg},
	}
}

// P6.1
func TestCheckHouse(t *testing.T) {
	for _, y := range changes() {
		x := two()
		y.make(&x)
		if e := kill.CheckHouse(x); e != y.want {
			t.Errorf("%s: CheckHouse of %v: %v", y.name, x, e)
		}
	}
	full := two()
	full.Steps, full.Lots = 5, append(full.Lots, full.Lots[0])
	if e := kill.CheckHouse(full); e != api.OK {
		t.Errorf("CheckHouse of 3 lots and 5 steps: %v", e)
	}
}

// answer has the error of a call, and whether all its other results are zero values.
type answer struct {
	call string
	e    api.Errno
	zero bool
}

func answerOf(call string, e api.Errno, others ...any) answer {
	a := answer{call, e, true}
	for _, x := range others {
		v := reflect.ValueOf(x)
		a.zero = a.zero && (v.IsZero() || v.Kind() == reflect.Slice && v.Len() == 0)
	}
	return a
}

// ask calls all that has an error: Best, what has a plan, Play, and what has weighings.
func ask(h kill.House, p kill.Plan, truth kill.Truth, seen []kill.Weigh) []answer {
	best, n, e1 := kill.Best(h)
	steps, colours, e2 := kill.Killed(h, p)
	wrong, e3 := kill.Wrong(h, p)
	shrink, e4 := kill.Shrink(h, p)
	water, can, e5 := kill.Play(h, p, truth)
	waters, e6 := kill.Waters(h, p, seen)
	leave, e7 := kill.Leave(h, p, seen)
	return []answer{
		answerOf("Best", e1, best, n), answerOf("Killed", e2, steps, colours), answerOf("Wrong", e3, wrong), answerOf("Shrink", e4, shrink),
		answerOf("Play", e5, water, can), answerOf("Waters", e6, waters), answerOf("Leave", e7, leave),
	}
}

// has reports an error unless calls have these errors, and nothing else with them.
func has(t *testing.T, name string, all []answer, want ...api.Errno) {
	t.Helper()
	for i, a := range all {
		if a.e != want[i] || a.e != api.OK && !a.zero {
			t.Errorf("%s: %v, not %v", name, a, want[i])
		}
	}
}

// his is a truth of the house two with the plan hers.
func his() kill.Truth {
	return kill.Truth{Water: list(105, 60), Off: lists(list(15, 10, 30), list(0, 20, 0))}
}

type changeOfPlan struct {
	name string
	make func(p *kill.Plan)
	want api.Errno
}

// changesOfPlan are changes of the plan hers for the house two, and its error after them.
func changesOfPlan() []changeOfPlan {
	set := func(i, step, to int) func(p *kill.Plan) { return func(p *kill.Plan) { (*p)[i][step] = to } }
	return []changeOfPlan{
		{"none", func(p *kill.Plan) {}, api.OK},
		{"nothing", func(p *kill.Plan) { *p = nil }, api.ErrRange},
		{"one lot less", func(p *kill.Plan) { *p = (*p)[:1] }, api.ErrRange},
		{"one lot more", func(p *kill.Plan) { *p = append(*p, list(-1, -1, -1)) }, api.ErrRange},
		{"one empty lot more", func(p *kill.Plan) { *p = append(*p, nil) }, api.ErrRange},
		{"one step less", func(p *kill.Plan) { (*p)[1] = list(-1, 1) }, api.ErrRange},
		{"one step more", func(p *kill.Plan) { (*p)[0] = list(0, 0, 1, -1) }, api.ErrRange},
		{"no steps", func(p *kill.Plan) { (*p)[0] = nil }, api.ErrRange},
		{"a step of another lot", func(p *kill.Plan) { *p = lists(list(0, 0), list(1, -1, 1, -1)) }, api.ErrRange},
		{"place -1", set(0, 0, -1), api.OK},
		{"place -2", set(1, 2, -2), api.ErrRange},
		{"the last of the places", set(1, 2, 1), api.OK},
		{"place 2", set(1, 2, 2), api.ErrRange},
		{"the greatest place", set(0, 0, math.MaxInt), api.ErrRange},
		{"the smallest place", set(0, 0, math.MinInt), api.ErrRange},
		{"two lots in place 0, in step 0", set(1, 0, 0), api.ErrRange},
		{"two lots in place 0, in step 1", set(1, 1, 0), api.ErrRange},
		{"two lots in place 0, in step 2", func(p *kill.Plan) { (*p)[0][2], (*p)[1][2] = 0, 0 }, api.ErrRange},
		{"two lots in place 1", set(1, 2, 1), api.OK},
		{"lots in place 0 one after the other", set(1, 2, 0), api.OK},
		{"two lots in None", func(p *kill.Plan) { *p = nowhere(two()) }, api.OK},
	}
}

// A wrong house counts before a wrong plan, truth or weighing, and a wrong plan before a wrong truth or weighing (R1); with an error all else is zero (R2).
func TestErrorsOfHouseAndPlan(t *testing.T) {
	bad := kill.Weigh{Lot: -1}
	for _, y := range changes() {
		if y.want == api.OK {
			continue
		}
		x := two()
		y.make(&x)
		for _, p := range []kill.Plan{nil, hers(), lists(nil), lists(list(7)), nowhere(two())} {
			for _, seen := range [][]kill.Weigh{nil, {bad}, make([]kill.Weigh, 7)} {
				has(t, y.name, ask(x, p, his(), seen), slices.Repeat([]api.Errno{y.want}, 7)...)
			}
			has(t, y.name, ask(x, p, kill.Truth{}, nil), slices.Repeat([]api.Errno{y.want}, 7)...)
			if kill.ProvePlan(x, p, 100) {
				t.Errorf("%s: ProvePlan of %v", y.name, p)
			}
		}
	}
	for _, y := range changesOfPlan() {
		p := hers()
		y.make(&p)
		if y.want == api.OK {
			has(t, y.name, ask(two(), p, his(), nil), slices.Repeat([]api.Errno{api.OK}, 7)...)
			continue
		}
		for _, seen := range [][]kill.Weigh{nil, {bad}, make([]kill.Weigh, 7)} {
			has(t, y.name, ask(two(), p, kill.Truth{}, seen), append([]api.Errno{api.OK}, slices.Repeat([]api.Errno{y.want}, 6)...)...)
		}
		if kill.ProvePlan(two(), p, 100) {
			t.Errorf("%s: ProvePlan of %v", y.name, p)
		}
	}
}

// P6.1
func TestErrorsOfTruths(t *testing.T) {
	for _, y := range []struct {
		name string
		make func(x *kill.Truth)
		want api.Errno
	}{
		{"none", func(x *kill.Truth) {}, api.OK},
		{"nothing", func(x *kill.Truth) { *x = kill.Truth{} }, api.ErrRange},
		{"no water", func(x *kill.Truth) { x.Water = nil }, api.ErrRange},
		{"water of one lot", func(x *kill.Truth) { x.Water = list(105) }, api.ErrRange},
		{"water of three lots", func(x *kill.Truth) { x.Water = list(105, 60, 60) }, api.ErrRange},
		{"water below it", func(x *kill.Truth) { x.Water[0] = 99 }, api.ErrRange},
		{"the least water", func(x *kill.Truth) { x.Water[0] = 100 }, api.OK},
		{"the most water", func(x *kill.Truth) { x.Water[0] = 110 }, api.OK},
		{"water above it", func(x *kill.Truth) { x.Water[0] = 111 }, api.ErrRange},
		{"water above it, of the second lot", func(x *kill.Truth) { x.Water[1] = 61 }, api.ErrRange},
		{"water below it, of the second lot", func(x *kill.Truth) { x.Water[1] = math.MinInt }, api.ErrRange},
		{"no Off", func(x *kill.Truth) { x.Off = nil }, api.ErrRange},
		{"Off of one lot", func(x *kill.Truth) { x.Off = x.Off[:1] }, api.ErrRange},
		{"Off of three lots", func(x *kill.Truth) { x.Off = append(x.Off, list(0, 0, 0)) }, api.ErrRange},
		{"Off of no step", func(x *kill.Truth) { x.Off[0] = nil }, api.ErrRange},
		{"Off of two steps", func(x *kill.Truth) { x.Off[1] = list(0, 20) }, api.ErrRange},
		{"Off of four steps", func(x *kill.Truth) { x.Off[1] = list(0, 20, 0, 0) }, api.ErrRange},
		{"Off -1", func(x *kill.Truth) { x.Off[0][2] = -1 }, api.ErrRange},
		{"Off 0", func(x *kill.Truth) { x.Off[0][2] = 0 }, api.OK},
		{"Off 1000", func(x *kill.Truth) { x.Off[1][0] = 1000 }, api.OK},
		{"Off 1001", func(x *kill.Truth) { x.Off[1][0] = 1001 }, api.ErrRange},
		{"the greatest Off", func(x *kill.Truth) { x.Off[1][2] = math.MaxInt }, api.ErrRange},
		{"the smallest Off", func(x *kill.Truth) { x.Off[1][2] = math.MinInt }, api.ErrRange},
	} {
		x := his()
		y.make(&x)
		water, can, e := kill.Play(two(), hers(), x)
		if a := answerOf("Play", e, water, can); e != y.want || a.zero != (e != api.OK) {
			t.Errorf("%s: Play of %v: %v, %v, %v", y.name, x, water, can, e)
		}
	}
}

// Too many weighings count before wrong ones, and these before what contradicts itself.
func TestErrorsOfWeighings(t *testing.T) {
	fine, none := weigh(0, 1, 144, 150), weigh(1, 0, 0, 0)
	for _, y := range []struct {
		name          string
		seen          []kill.Weigh
		waters, leave api.Errno
	}{
		{"no weighings", nil, api.OK, api.OK},
		{"one that can be", []kill.Weigh{fine}, api.OK, api.OK},
		{"one that cannot be", []kill.Weigh{none}, api.ErrFail, api.OK},
		{"six", []kill.Weigh{fine, fine, fine, fine, fine, fine}, api.OK, api.OK},
		{"seven", []kill.Weigh{fine, fine, fine, fine, fine, fine, fine}, api.ErrLimit, api.ErrLimit},
		{"seven wrong ones", make([]kill.Weigh, 7), api.ErrLimit, api.ErrLimit},
		{"seven, the last one of no lot", append(make([]kill.Weigh, 6), weigh(9, 0, 0, 0)), api.ErrLimit, api.ErrLimit},
		{"lot -1", []kill.Weigh{weigh(-1, 1, 144, 150)}, api.ErrRange, api.ErrRange},
		{"lot 2", []kill.Weigh{weigh(2, 1, 144, 150)}, api.ErrRange, api.ErrRange},
		{"the greatest lot", []kill.Weigh{weigh(math.MaxInt, 1, 144, 150)}, api.ErrRange, api.ErrRange},
		{"step -1", []kill.Weigh{weigh(0, -1, 144, 150)}, api.ErrRange, api.ErrRange},
		{"step 0", []kill.Weigh{weigh(0, 0, 144, 170)}, api.OK, api.OK},
		{"step 2", []kill.Weigh{weigh(0, 2, 120, 130)}, api.OK, api.OK},
		{"step 3", []kill.Weigh{weigh(0, 3, 120, 130)}, api.ErrRange, api.ErrRange},
		{"the smallest step", []kill.Weigh{weigh(0, math.MinInt, 144, 150)}, api.ErrRange, api.ErrRange},
		{"weight from -1", []kill.Weigh{weigh(0, 1, -1, 150)}, api.ErrRange, api.ErrRange},
		{"weight from 0", []kill.Weigh{weigh(0, 1, 0, 150)}, api.OK, api.OK},
		{"weight to 2000", []kill.Weigh{weigh(0, 1, 150, 2000)}, api.OK, api.OK},
		{"weight to 2001", []kill.Weigh{weigh(0, 1, 150, 2001)}, api.ErrRange, api.ErrRange},
		{"weight above 2000", []kill.Weigh{weigh(0, 1, 2001, 2001)}, api.ErrRange, api.ErrRange},
		{"weight upside down", []kill.Weigh{weigh(0, 1, 150, 149)}, api.ErrRange, api.ErrRange},
		{"weight of all numbers", []kill.Weigh{weigh(0, 1, math.MinInt, math.MaxInt)}, api.ErrRange, api.ErrRange},
		{"the second one is wrong", []kill.Weigh{fine, weigh(0, 3, 0, 2000)}, api.ErrRange, api.ErrRange},
		{"one that cannot be, and a wrong one", []kill.Weigh{none, weigh(0, 3, 0, 2000)}, api.ErrRange, api.ErrRange},
	} {
		l, e := kill.Waters(two(), hers(), y.seen)
		if a := answerOf("Waters", e, l); e != y.waters || a.zero != (e != api.OK) {
			t.Errorf("%s: Waters: %v, %v", y.name, l, e)
		}
		set, e := kill.Leave(two(), hers(), y.seen)
		if e != y.leave || (len(set) > 0) != (y.waters == api.ErrFail) {
			t.Errorf("%s: Leave: %v, %v", y.name, set, e)
		}
	}
}

// Best has an error if a lot cannot be right by itself, or not together with the others.
func TestErrorOfBest(t *testing.T) {
	one := func(change func(h *kill.House)) kill.House {
		h := two()
		change(&h)
		return h
	}
	for _, y := range []struct {
		name string
		h    kill.House
	}{
		{"too much water", one(func(h *kill.House) { h.Lots[1].Limit = 10 })},
		{"too much water of the first lot", one(func(h *kill.House) { h.Lots[0].Limit = 10 })},
		{"too few steps to be killed", one(func(h *kill.House) { h.Places[0].Kill = 4 })},
		{"nothing kills", one(func(h *kill.House) { h.Places[0].Kill, h.Places[1].Kill = 0, 0 })},
		{"no place has the colour", one(func(h *kill.House) { h.Places[0].Colour = 2 })},
		{"no room for both in time", one(func(h *kill.House) { h.Lots[1].Colour = 1 })},
	} {
		if p, n, e := kill.Best(y.h); len(p) != 0 || n != 0 || e != api.ErrMiss {
			t.Errorf("%s: Best of %v: %v, %d, %v", y.name, y.h, p, n, e)
		}
	}
}
