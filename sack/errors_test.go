package sack_test

import (
	"math"
	"reflect"
	"slices"
	"testing"

	"nochez/api"
	"nochez/sack"
)

type change struct {
	name string
	make func(x *sack.Roads)
	want api.Errno
}

// changes are changes of the roads two, and their error after them.
func changes() []change {
	all := []change{
		{"none", func(x *sack.Roads) {}, api.OK},
		{"nothing", func(x *sack.Roads) { *x = sack.Roads{} }, api.ErrArg},
		{"no trips", func(x *sack.Roads) { x.Trips = nil }, api.OK},
		{"6 trips", func(x *sack.Roads) { x.Trips = append(x.Trips, x.Trips...) }, api.OK},
		{"7 trips", func(x *sack.Roads) { x.Trips = slices.Repeat(x.Trips[:1], 7) }, api.ErrLimit},
		{"7 wrong trips", func(x *sack.Roads) { x.Trips = make([]sack.Trip, 7) }, api.ErrLimit},
		{"7 trips, no sacks", func(x *sack.Roads) { x.Trips, x.Sacks = make([]sack.Trip, 7), nil }, api.ErrLimit},
		{"7 trips, no places", func(x *sack.Roads) { x.Trips, x.Places = make([]sack.Trip, 7), 0 }, api.ErrLimit},
		{"no sacks", func(x *sack.Roads) { x.Sacks = nil }, api.ErrArg},
		{"1 sack", func(x *sack.Roads) { x.Sacks = x.Sacks[:1] }, api.OK},
		{"4 sacks", func(x *sack.Roads) { x.Sacks = append(x.Sacks, x.Sacks...) }, api.OK},
		{"5 sacks", func(x *sack.Roads) { x.Sacks = slices.Repeat(x.Sacks[:1], 5) }, api.ErrLimit},
		{"5 wrong sacks", func(x *sack.Roads) { x.Sacks = make([]sack.Sack, 5) }, api.ErrLimit},
		{"5 sacks, a wrong trip", func(x *sack.Roads) { x.Sacks, x.Trips[0].Load = make([]sack.Sack, 5), -1 }, api.ErrLimit},
		{"5 places", func(x *sack.Roads) { x.Places = 5 }, api.OK},
		{"6 places", func(x *sack.Roads) { x.Places = 6 }, api.ErrLimit},
		{"6 places, no sacks", func(x *sack.Roads) { x.Places, x.Sacks = 6, nil }, api.ErrLimit},
		{"6 places, a wrong sack", func(x *sack.Roads) { x.Places, x.Sacks[1].Mark = 6, 0 }, api.ErrLimit},
		{"the most places", func(x *sack.Roads) { x.Places = math.MaxInt }, api.ErrLimit},
		{"2 places", func(x *sack.Roads) { x.Places = 2 }, api.ErrArg},
		{"0 places", func(x *sack.Roads) { x.Places = 0 }, api.ErrArg},
		{"-1 places", func(x *sack.Roads) { x.Places = -1 }, api.ErrArg},
		{"0 places, no trips, no sacks", func(x *sack.Roads) { *x = sack.Roads{} }, api.ErrArg},
		{"0 places, no trips", func(x *sack.Roads) { x.Places, x.Trips = 0, nil }, api.ErrArg},
		{"the fewest places", func(x *sack.Roads) { x.Places = math.MinInt }, api.ErrArg},
		{"1 place", func(x *sack.Roads) { *x = sack.Roads{Places: 1, Sacks: []sack.Sack{bag(0, 0, 0, 1, 1, 1)}} }, api.OK},
		{"a trip from a place to itself", func(x *sack.Roads) { x.Trips[1].To = 1 }, api.ErrArg},
		{"a trip back", func(x *sack.Roads) { x.Trips[1].From, x.Trips[1].To = 2, 0 }, api.OK},
		{"a sack whose Start is its Goal", func(x *sack.Roads) { x.Sacks[0].Goal = 0 }, api.OK},
	}
	return slices.Concat(all, changesOfNumbers(), changesOfRanges())
}

// changesOfNumbers puts numbers at the ends of what they may be, and out of it.
func changesOfNumbers() (all []change) {
	for _, y := range []struct {
		name      string
		of        func(x *sack.Roads) *int
		low, high int
	}{
		{"From", func(x *sack.Roads) *int { return &x.Trips[1].From }, 0, 1},
		{"To", func(x *sack.Roads) *int { return &x.Trips[2].To }, 0, 2},
		{"Day", func(x *sack.Roads) *int { return &x.Trips[0].Day }, 0, 30},
		{"Days", func(x *sack.Roads) *int { return &x.Trips[2].Days }, 1, 30},
		{"Load", func(x *sack.Roads) *int { return &x.Trips[1].Load }, 0, 4000},
		{"Start", func(x *sack.Roads) *int { return &x.Sacks[0].Start }, 0, 2},
		{"Goal", func(x *sack.Roads) *int { return &x.Sacks[1].Goal }, 0, 2},
		{"Due", func(x *sack.Roads) *int { return &x.Sacks[1].Due }, 0, 30},
		{"Mark", func(x *sack.Roads) *int { return &x.Sacks[0].Mark }, 1, 9},
	} {
		set := func(n int, want api.Errno) {
			all = append(all, change{y.name + " " + text(n), func(x *sack.Roads) { *y.of(x) = n }, want})
		}
		set(y.low, api.OK)
		set(y.high, api.OK)
		for _, n := range list(y.low-1, y.high+1, math.MinInt, math.MaxInt) {
			if y.name == "From" && n == 2 {
				n = 3 // trip 1 comes to 2
			}
			set(n, api.ErrArg)
		}
	}
	return all
}

// changesOfRanges does so with both ends of ranges.
func changesOfRanges() (all []change) {
	for _, y := range []struct {
		name      string
		of        func(x *sack.Roads) *sack.Range
		low, high int
	}{
		{"Loss", func(x *sack.Roads) *sack.Range { return &x.Trips[2].Loss }, 0, 1000},
		{"Weight", func(x *sack.Roads) *sack.Range { return &x.Sacks[1].Weight }, 1, 1000},
	} {
		for _, r := range row(to(y.low, y.low), to(y.high, y.high), to(y.low, y.high), to(5, 6)) {
			all = append(all, change{y.name + text(r), func(x *sack.Roads) { *y.of(x) = r }, api.OK})
		}
		for _, r := range row(to(y.low-1, y.high), to(y.low, y.high+1), to(y.low-1, y.low-1), to(y.high+1, y.high+1), to(6, 5), to(math.MinInt, math.MaxInt), to(math.MaxInt, math.MinInt)) {
			all = append(all, change{y.name + text(r), func(x *sack.Roads) { *y.of(x) = r }, api.ErrArg})
		}
	}
	return all
}

// P10.1
func TestCheckRoads(t *testing.T) {
	for _, y := range changes() {
		x := with(two(), y.make)
		if e := sack.CheckRoads(x); e != y.want {
			t.Errorf("%s: CheckRoads of %v: %v", y.name, x, e)
		}
	}
}

// answer has the error of a call, and whether all its other results are zero values.
type answer struct {
	call string
	e    api.Errno
	zero bool
}

func answerOf(call string, e api.Errno, others ...any) answer {
	a := answer{call, e, true}
	for _, x := range others {
		v := reflect.ValueOf(x)
		a.zero = a.zero && (v.IsZero() || v.Kind() == reflect.Slice && v.Len() == 0)
	}
	return a
}

// ask calls all that has an error: Best, what has a plan, Play, and what has finds.
func ask(r sack.Roads, p sack.Plan, truth sack.Truth, l []sack.Find) []answer {
	best, n, e1 := sack.Best(r)
	weights, e2 := sack.Weights(r, p)
	places, days, e3 := sack.Come(r, p)
	late, e4 := sack.Late(r, p)
	over, e5 := sack.Over(r, p)
	ends, can, e6 := sack.Play(r, p, truth)
	sacks, e7 := sack.Identify(r, p, l)
	set, e8 := sack.Odd(r, p, l)
	return []answer{
		answerOf("Best", e1, best, n), answerOf("Weights", e2, weights), answerOf("Come", e3, places, days), answerOf("Late", e4, late),
		answerOf("Over", e5, over), answerOf("Play", e6, ends, can), answerOf("Identify", e7, sacks), answerOf("Odd", e8, set),
	}
}

// has reports an error unless calls have these errors, and nothing else with them.
func has(t *testing.T, name string, all []answer, want ...api.Errno) {
	t.Helper()
	for i, a := range all {
		if a.e != want[i] || a.e != api.OK && !a.zero {
			t.Errorf("%s: %v, not %v", name, a, want[i])
		}
	}
}

type changeOfPlan struct {
	name string
	p    sack.Plan
	want api.Errno
}

// plansOfTwo are plans for the roads two, and their errors.
func plansOfTwo() []changeOfPlan {
	return []changeOfPlan{
		{"hers", hers(), api.OK},
		{"both by the first ship", lists(list(0, 1), list(0, 1)), api.OK},
		{"nobody travels", lists(nil, nil), api.OK},
		{"one travels", lists(nil, list(0)), api.OK},
		{"the day on which one arrives", lists(list(0, 2), list(0)), api.OK},
		{"nothing", nil, api.ErrRange},
		{"one sack less", hers()[:1], api.ErrRange},
		{"one sack more", append(hers(), list(0)), api.ErrRange},
		{"one sack more, which stays", append(hers(), nil), api.ErrRange},
		{"it leaves another place than Start", lists(list(1), list(0)), api.ErrRange},
		{"the second sack leaves another place than Start", lists(list(0), list(2)), api.ErrRange},
		{"it leaves another place than it came to", lists(list(0, 1, 2), nil), api.ErrRange},
		{"the same trip again", lists(list(0, 0), nil), api.ErrRange},
		{"the other way round", lists(nil, list(1, 0)), api.ErrRange},
		{"trip -1", lists(list(-1), nil), api.ErrRange},
		{"trip -1 at the end", lists(nil, list(0, -1)), api.ErrRange},
		{"trip 3", lists(nil, list(3)), api.ErrRange},
		{"trip 3 at the end", lists(list(0, 1, 3), nil), api.ErrRange},
		{"the greatest trip", lists(list(0), list(math.MaxInt)), api.ErrRange},
		{"the smallest trip", lists(list(math.MinInt), list(0)), api.ErrRange},
		{"many trips", lists(slices.Repeat(list(0), 1000), nil), api.ErrRange},
	}
}

// Wrong roads count before a wrong plan, truth or find, and a wrong plan before a wrong truth or find (R1); with an error all else is zero (R2).
func TestErrorsOfRoadsAndPlan(t *testing.T) {
	bad := find(-1, 0, 0, 0)
	for _, y := range changes() {
		if y.want == api.OK {
			continue
		}
		x := with(two(), y.make)
		for _, p := range []sack.Plan{nil, hers(), lists(nil), lists(list(7)), nobody(two())} {
			for _, l := range [][]sack.Find{nil, {bad}, make([]sack.Find, 7)} {
				has(t, y.name, ask(x, p, his(), l), slices.Repeat([]api.Errno{y.want}, 8)...)
			}
			has(t, y.name, ask(x, p, sack.Truth{}, nil), slices.Repeat([]api.Errno{y.want}, 8)...)
			if sack.ProvePlan(x, p, 1000) {
				t.Errorf("%s: ProvePlan of %v", y.name, p)
			}
		}
	}
	for _, y := range plansOfTwo() {
		if y.want == api.OK {
			has(t, y.name, ask(two(), y.p, drawTruth(chance(1), two(), y.p), nil), slices.Repeat([]api.Errno{api.OK}, 8)...)
			continue
		}
		for _, l := range [][]sack.Find{nil, {bad}, make([]sack.Find, 7)} {
			has(t, y.name, ask(two(), y.p, sack.Truth{}, l), append([]api.Errno{api.OK}, slices.Repeat([]api.Errno{y.want}, 7)...)...)
		}
		if sack.ProvePlan(two(), y.p, 1000) {
			t.Errorf("%s: ProvePlan of %v", y.name, y.p)
		}
	}
}

// A trip can be taken on the day on which the sack comes, and no earlier one; the first trip on any day.
func TestDaysOfPlans(t *testing.T) {
	for _, y := range []struct {
		day  int
		want api.Errno
	}{{0, api.ErrRange}, {2, api.ErrRange}, {3, api.OK}, {4, api.OK}, {30, api.OK}} {
		r := with(two(), func(r *sack.Roads) { r.Trips[1].Day = y.day })
		if _, e := sack.Late(r, hers()); e != y.want {
			t.Errorf("day %d: %v", y.day, e)
		}
		first := with(two(), func(r *sack.Roads) { r.Trips[0].Day = y.day })
		if _, e := sack.Late(first, lists(list(0), nil)); e != api.OK {
			t.Errorf("day %d of the first trip: %v", y.day, e)
		}
	}
}

// P10.1
func TestErrorsOfTruths(t *testing.T) {
	for _, y := range []struct {
		name string
		make func(x *sack.Truth)
		want api.Errno
	}{
		{"none", func(x *sack.Truth) {}, api.OK},
		{"nothing", func(x *sack.Truth) { *x = sack.Truth{} }, api.ErrRange},
		{"no Weight", func(x *sack.Truth) { x.Weight = nil }, api.ErrRange},
		{"Weight of one sack", func(x *sack.Truth) { x.Weight = list(105) }, api.ErrRange},
		{"Weight of three sacks", func(x *sack.Truth) { x.Weight = list(105, 80, 80) }, api.ErrRange},
		{"Weight below it", func(x *sack.Truth) { x.Weight[0] = 99 }, api.ErrRange},
		{"the least Weight", func(x *sack.Truth) { x.Weight[0] = 100 }, api.OK},
		{"the most Weight", func(x *sack.Truth) { x.Weight[0] = 110 }, api.OK},
		{"Weight above it", func(x *sack.Truth) { x.Weight[0] = 111 }, api.ErrRange},
		{"Weight above it, of the second sack", func(x *sack.Truth) { x.Weight[1] = math.MaxInt }, api.ErrRange},
		{"Weight below it, of the second sack", func(x *sack.Truth) { x.Weight[1] = math.MinInt }, api.ErrRange},
		{"no Lost", func(x *sack.Truth) { x.Lost = nil }, api.ErrRange},
		{"Lost of one sack", func(x *sack.Truth) { x.Lost = x.Lost[:1] }, api.ErrRange},
		{"Lost of three sacks", func(x *sack.Truth) { x.Lost = append(x.Lost, nil) }, api.ErrRange},
		{"Lost on no trip", func(x *sack.Truth) { x.Lost[0] = nil }, api.ErrRange},
		{"Lost on one trip", func(x *sack.Truth) { x.Lost[1] = list(1) }, api.ErrRange},
		{"Lost on three trips", func(x *sack.Truth) { x.Lost[1] = list(1, 0, 0) }, api.ErrRange},
		{"Lost -1", func(x *sack.Truth) { x.Lost[0][1] = -1 }, api.ErrRange},
		{"Lost 0", func(x *sack.Truth) { x.Lost[0][1] = 0 }, api.OK},
		{"Lost 1000", func(x *sack.Truth) { x.Lost[1][0] = 1000 }, api.OK},
		{"Lost 1001", func(x *sack.Truth) { x.Lost[1][0] = 1001 }, api.ErrRange},
		{"the greatest Lost", func(x *sack.Truth) { x.Lost[1][1] = math.MaxInt }, api.ErrRange},
		{"the smallest Lost", func(x *sack.Truth) { x.Lost[1][1] = math.MinInt }, api.ErrRange},
		{"Lost of each other", func(x *sack.Truth) { x.Lost = lists(list(2), list(5, 1, 0)) }, api.ErrRange},
	} {
		x := his()
		y.make(&x)
		weights, can, e := sack.Play(two(), hers(), x)
		if a := answerOf("Play", e, weights, can); e != y.want || a.zero != (e != api.OK) {
			t.Errorf("%s: Play of %v: %v, %v, %v", y.name, x, weights, can, e)
		}
	}
}

// Too many finds count before wrong ones, and these before what is not possible.
func TestErrorsOfFinds(t *testing.T) {
	fine, none := find(2, 90, 100, 1), find(0, 0, 1000, 0)
	for _, y := range []struct {
		name          string
		l             []sack.Find
		identify, odd api.Errno
	}{
		{"no finds", nil, api.OK, api.OK},
		{"one that can be", finds(fine), api.OK, api.OK},
		{"one that cannot be", finds(none), api.ErrFalse, api.OK},
		{"six", slices.Repeat(finds(fine), 6), api.ErrFalse, api.OK},
		{"seven", slices.Repeat(finds(fine), 7), api.ErrLimit, api.ErrLimit},
		{"seven wrong ones", slices.Repeat(finds(find(-1, 0, 0, 0)), 7), api.ErrLimit, api.ErrLimit},
		{"Place -1", finds(find(-1, 90, 100, 1)), api.ErrRange, api.ErrRange},
		{"Place 0", finds(find(0, 90, 100, 1)), api.ErrFalse, api.OK},
		{"Place 3", finds(find(3, 90, 100, 1)), api.ErrRange, api.ErrRange},
		{"the greatest Place", finds(find(math.MaxInt, 90, 100, 1)), api.ErrRange, api.ErrRange},
		{"the smallest Place", finds(find(math.MinInt, 90, 100, 1)), api.ErrRange, api.ErrRange},
		{"Weight from -1", finds(find(2, -1, 100, 1)), api.ErrRange, api.ErrRange},
		{"Weight 0", finds(find(2, 0, 0, 1)), api.ErrFalse, api.OK},
		{"Weight to 1000", finds(find(2, 0, 1000, 1)), api.OK, api.OK},
		{"Weight to 1001", finds(find(2, 0, 1001, 1)), api.ErrRange, api.ErrRange},
		{"Weight above 1000", finds(find(2, 1001, 1001, 1)), api.ErrRange, api.ErrRange},
		{"Weight upside down", finds(find(2, 100, 99, 1)), api.ErrRange, api.ErrRange},
		{"Weight of all numbers", finds(find(2, math.MinInt, math.MaxInt, 1)), api.ErrRange, api.ErrRange},
		{"Mark -1", finds(find(2, 90, 100, -1)), api.ErrRange, api.ErrRange},
		{"Mark 0", finds(find(2, 90, 100, 0)), api.OK, api.OK},
		{"Mark 9", finds(find(2, 90, 100, 9)), api.ErrFalse, api.OK},
		{"Mark 10", finds(find(2, 90, 100, 10)), api.ErrRange, api.ErrRange},
		{"the greatest Mark", finds(find(2, 90, 100, math.MaxInt)), api.ErrRange, api.ErrRange},
		{"the smallest Mark", finds(find(2, 90, 100, math.MinInt)), api.ErrRange, api.ErrRange},
		{"the second one is wrong", finds(fine, find(2, 90, 100, 10)), api.ErrRange, api.ErrRange},
		{"one that cannot be, and a wrong one", finds(none, find(3, 0, 0, 0)), api.ErrRange, api.ErrRange},
	} {
		sacks, e := sack.Identify(two(), hers(), y.l)
		if a := answerOf("Identify", e, sacks); e != y.identify || e != api.OK && !a.zero || len(sacks) != len(y.l) && e == api.OK {
			t.Errorf("%s: Identify: %v, %v", y.name, sacks, e)
		}
		set, e := sack.Odd(two(), hers(), y.l)
		if e != y.odd || (len(set) > 0) != (y.identify == api.ErrFalse) {
			t.Errorf("%s: Odd: %v, %v", y.name, set, e)
		}
	}
}

// Best has an error if a sack cannot be in time by itself, or not together with the others.
func TestErrorOfBest(t *testing.T) {
	for _, y := range []struct {
		name string
		make func(r *sack.Roads)
	}{
		{"no trips", func(r *sack.Roads) { r.Trips = nil }},
		{"due too early", func(r *sack.Roads) { r.Sacks[0].Due = 8 }},
		{"the second one due too early for the other ship", func(r *sack.Roads) { r.Sacks[1].Due = 11 }},
		{"nothing goes there", func(r *sack.Roads) { r.Places, r.Sacks[1].Goal = 4, 3 }},
		{"nothing goes on from there", func(r *sack.Roads) { r.Sacks[0].Start, r.Sacks[0].Goal = 2, 0 }},
		{"the ship leaves too early", func(r *sack.Roads) { r.Trips[1].Day = 2 }},
		{"too heavy", func(r *sack.Roads) { r.Sacks[0].Weight = to(1, 200) }},
		{"one ounce too many together", func(r *sack.Roads) { r.Trips[0].Load = 189 }},
	} {
		cannot(t, with(two(), y.make))
	}
}
