package sack_test

import (
	"math"
	"math/rand/v2"
	"slices"
	"testing"

	"nochez/api"
	"nochez/sack"
)

// P10.1, by hand
func TestPlay(t *testing.T) {
	for _, y := range []struct {
		name    string
		make    func(x *sack.Truth)
		weights []int
		can     bool
	}{
		{"a truth", func(x *sack.Truth) {}, list(98, 79), true},
		{"the least weight, and the least that is lost", func(x *sack.Truth) { x.Weight[0], x.Lost[0] = 100, list(1, 0) }, list(99, 79), true},
		{"less is lost first", func(x *sack.Truth) { x.Weight[0], x.Lost[0] = 100, list(0, 0) }, list(100, 79), false},
		{"the most weight, and the most that is lost", func(x *sack.Truth) { x.Weight[0], x.Lost[0] = 110, list(3, 6) }, list(101, 79), true},
		{"more is lost first", func(x *sack.Truth) { x.Weight[0], x.Lost[0] = 110, list(4, 6) }, list(100, 79), false},
		{"more is lost last", func(x *sack.Truth) { x.Weight[0], x.Lost[0] = 110, list(3, 7) }, list(100, 79), false},
		{"it does not become right again", func(x *sack.Truth) { x.Lost[0] = list(0, 5) }, list(100, 79), false},
		{"the second sack: least", func(x *sack.Truth) { x.Lost[1] = list(0, 0) }, list(98, 80), true},
		{"the second sack: most", func(x *sack.Truth) { x.Lost[1] = list(2, 0) }, list(98, 78), true},
		{"the second sack: more", func(x *sack.Truth) { x.Lost[1] = list(3, 0) }, list(98, 77), false},
		{"nothing can be lost", func(x *sack.Truth) { x.Lost[1] = list(1, 1) }, list(98, 78), false},
		{"both cannot be", func(x *sack.Truth) { x.Lost = lists(list(0, 0), list(5, 0)) }, list(105, 75), false},
		{"below 0", func(x *sack.Truth) { x.Lost[0] = list(1000, 1000) }, list(-1895, 79), false},
		{"below 0, and then nothing", func(x *sack.Truth) { x.Lost[0] = list(106, 0) }, list(-1, 79), false},
		{"just to 0", func(x *sack.Truth) { x.Lost[1] = list(80, 0) }, list(98, 0), false},
	} {
		x := his()
		y.make(&x)
		if weights, can, e := sack.Play(two(), hers(), x); !slices.Equal(weights, y.weights) || can != y.can || e != api.OK {
			t.Errorf("%s: Play of %v: %v, %v, %v", y.name, x, weights, can, e)
		}
	}
	home := sack.Truth{Weight: list(107, 80), Lost: lists(nil, list())}
	if weights, can, e := sack.Play(two(), nobody(two()), home); !slices.Equal(weights, list(107, 80)) || !can || e != api.OK {
		t.Errorf("Play of %v: %v, %v, %v", home, weights, can, e)
	}
}

// alone are roads with one sack and one trip that it can take.
func alone(s sack.Sack, t sack.Trip) sack.Roads {
	return sack.Roads{Places: 2, Trips: []sack.Trip{t}, Sacks: []sack.Sack{s}}
}

// The least that is lost is rounded down, the most up.
func TestRounding(t *testing.T) {
	for _, y := range []struct {
		ounces, low, high int
		least, most       int
	}{
		{1000, 0, 0, 0, 0}, {1000, 1, 1, 1, 1}, {999, 1, 1, 0, 1}, {1, 1, 1, 0, 1}, {1, 999, 999, 0, 1}, {1, 1000, 1000, 1, 1}, {1, 0, 0, 0, 0}, {1, 0, 1000, 0, 1},
		{10, 100, 200, 1, 2}, {11, 100, 200, 1, 3}, {9, 100, 200, 0, 2}, {15, 333, 334, 4, 6}, {3, 333, 334, 0, 2}, {3, 334, 334, 1, 2}, {1000, 1000, 1000, 1000, 1000}, {1000, 0, 1000, 0, 1000}, {1000, 499, 501, 499, 501},
	} {
		r := alone(bag(0, 1, 30, y.ounces, y.ounces, 1), trip(0, 1, 0, 1, 4000, y.low, y.high))
		weighs(t, r, lists(list(0)), row(to(y.ounces-y.most, y.ounces-y.least)))
		for lost := range y.ounces + 1 {
			x := sack.Truth{Weight: list(y.ounces), Lost: lists(list(lost))}
			if weights, can, e := sack.Play(r, lists(list(0)), x); !slices.Equal(weights, list(y.ounces-lost)) || can != (y.least <= lost && lost <= y.most) || e != api.OK {
				t.Errorf("Play of %v, %v: %v, %v, %v", r, x, weights, can, e)
			}
		}
	}
}

// P10.2, by hand
func TestWeightsAndCome(t *testing.T) {
	for _, y := range []struct {
		name         string
		p            sack.Plan
		weights      []sack.Range
		places, days []int
	}{
		{"nobody travels", nobody(two()), row(to(100, 110), to(80, 80)), list(0, 0), list(0, 0)},
		{"one travels", lists(nil, list(0)), row(to(100, 110), to(78, 80)), list(0, 1), list(0, 3)},
		{"the other one travels", lists(list(0), nil), row(to(98, 109), to(80, 80)), list(1, 0), list(3, 0)},
		{"by the second ship", lists(list(0, 2), list(0)), row(to(98, 109), to(78, 80)), list(2, 1), list(12, 3)},
		{"both by the first ship", lists(list(0, 1), list(0, 1)), row(to(93, 109), to(74, 80)), list(2, 2), list(9, 9)},
	} {
		weighs(t, two(), y.p, y.weights)
		comes(t, two(), y.p, y.places, y.days)
	}
	// Of a place to which a sack comes it can leave again, and come home.
	round := with(two(), func(r *sack.Roads) { r.Trips[1] = trip(1, 0, 3, 30, 4000, 1000, 1000) })
	weighs(t, round, lists(list(0, 1), nil), row(to(0, 0), to(80, 80)))
	comes(t, round, lists(list(0, 1), nil), list(0, 0), list(33, 0))
}

// P10.3, by hand
func TestLateAndOver(t *testing.T) {
	due := func(days ...int) sack.Roads {
		return with(two(), func(r *sack.Roads) {
			for i, n := range days {
				r.Sacks[i].Due = n
			}
		})
	}
	load := func(ounces ...int) sack.Roads {
		return with(two(), func(r *sack.Roads) {
			for i, n := range ounces {
				r.Trips[i].Load = n
			}
		})
	}
	for _, y := range []struct {
		name       string
		r          sack.Roads
		p          sack.Plan
		late, over []int
	}{
		{"on their Due", due(9, 12), hers(), nil, nil},
		{"the first one a day later", due(8, 12), hers(), list(0), nil},
		{"the second one a day later", due(9, 11), hers(), list(1), nil},
		{"both a day later", due(8, 11), hers(), list(0, 1), nil},
		{"not at their Goal", two(), lists(list(0), nil), list(0, 1), nil},
		{"at their Goal on day 0", with(due(0, 20), func(r *sack.Roads) { r.Sacks[0].Goal = 0 }), lists(nil, list(0, 2)), nil, nil},
		{"away from their Goal", with(two(), func(r *sack.Roads) { r.Sacks[0].Goal = 0 }), hers(), list(0), nil},
		{"at another place on the way", with(two(), func(r *sack.Roads) { r.Sacks[1].Goal = 1 }), hers(), list(1), nil},
		{"as much as can be loaded", load(190, 109, 80), hers(), nil, nil},
		{"the first trip", load(189, 109, 80), hers(), nil, list(0)},
		{"the second trip", load(190, 108, 80), hers(), nil, list(1)},
		{"the third trip", load(190, 109, 79), hers(), nil, list(2)},
		{"all trips", load(0, 0, 0), hers(), nil, list(0, 1, 2)},
		{"nobody on a trip", load(190, 188, 0), lists(list(0, 1), list(0, 1)), nil, list(1)},
		{"nobody on any trip", load(0, 0, 0), nobody(two()), list(0, 1), nil},
		{"the most that is left when it leaves", with(load(190, 189, 0), func(r *sack.Roads) { r.Trips[0].Loss = to(10, 1000) }), lists(list(0, 1), list(0, 1)), nil, nil},
		{"late, and too heavy", with(load(100, 100, 100), func(r *sack.Roads) { r.Sacks[0].Due = 8 }), hers(), list(0), list(0, 1)},
	} {
		t.Run(y.name, func(t *testing.T) { fails(t, y.r, y.p, y.late, y.over) })
	}
}

// ferries are roads with some trips from 0 to 1, which take no sack but one each, and some sacks that go there.
func ferries(sacks int, days ...[2]int) sack.Roads {
	r := sack.Roads{Places: 3}
	for _, d := range days {
		r.Trips = append(r.Trips, trip(0, 1, d[0], d[1], 100, 0, 0))
	}
	for range sacks {
		r.Sacks = append(r.Sacks, bag(0, 1, 30, 60, 100, 1))
	}
	return r
}

// P10.4, by hand
func TestBest(t *testing.T) {
	three := func() sack.Roads { return ferries(3, [2]int{0, 9}, [2]int{4, 2}, [2]int{3, 4}, [2]int{1, 5}) }
	for _, y := range []struct {
		name string
		r    sack.Roads
		want sack.Plan
		days int
	}{
		{"the earliest ones, and the smallest list first", three(), lists(list(1), list(2), list(3)), 19},
		{"the last two have to be early", with(three(), func(r *sack.Roads) { r.Sacks[1].Due, r.Sacks[2].Due = 6, 6 }), lists(list(2), list(1), list(3)), 19},
		{"the middle one has to be early", with(three(), func(r *sack.Roads) { r.Sacks[0].Due, r.Sacks[1].Due = 8, 6 }), lists(list(1), list(3), list(2)), 19},
		{"the first and the last one have to be early", with(three(), func(r *sack.Roads) { r.Sacks[0].Due, r.Sacks[1].Due, r.Sacks[2].Due = 6, 8, 6 }), lists(list(1), list(2), list(3)), 19},
		{"two in a ship", with(three(), func(r *sack.Roads) { r.Trips[3].Load = 200 }), lists(list(1), list(3), list(3)), 18},
		{"two in the first ship", with(three(), func(r *sack.Roads) { r.Trips[1].Load = 200 }), lists(list(1), list(1), list(3)), 18},
		{"all in a ship", with(three(), func(r *sack.Roads) { r.Trips[1].Load, r.Trips[3].Load = 0, 300 }), lists(list(3), list(3), list(3)), 18},
		{"an ounce too many", with(three(), func(r *sack.Roads) { r.Trips[1].Load, r.Trips[3].Load = 0, 299 }), lists(list(2), list(3), list(3)), 19},
		{"a shorter list is smaller", with(ferries(1, [2]int{0, 1}, [2]int{2, 3}, [2]int{4, 1}), func(r *sack.Roads) { r.Trips[0].To, r.Trips[1].From, r.Trips[1].To = 2, 2, 1 }), lists(list(2)), 5},
		{"fewer days are better than a shorter list", with(ferries(1, [2]int{0, 1}, [2]int{2, 2}, [2]int{4, 1}), func(r *sack.Roads) { r.Trips[0].To, r.Trips[1].From, r.Trips[1].To = 2, 2, 1 }), lists(list(0, 1)), 4},
		{"who leaves first may lose more", with(ferries(2, [2]int{0, 1}, [2]int{0, 2}, [2]int{5, 1}), func(r *sack.Roads) {
			r.Trips[0].To, r.Trips[1].To, r.Trips[2].From = 2, 2, 2
			r.Trips[1].Loss, r.Trips[2].Load = to(500, 500), 150
		}), lists(list(0, 2), list(1, 2)), 12},
		{"each by a way of its own", with(ferries(2, [2]int{0, 1}, [2]int{0, 2}, [2]int{5, 1}), func(r *sack.Roads) {
			r.Trips[0].To, r.Trips[1].To, r.Trips[2].From = 2, 1, 2
		}), lists(list(1), list(0, 2)), 8},
		{"nobody travels", with(two(), func(r *sack.Roads) { r.Sacks[0].Goal, r.Sacks[1].Goal, r.Sacks[0].Due, r.Trips = 0, 0, 0, nil }), lists(nil, nil), 0},
		{"one stays", with(two(), func(r *sack.Roads) { r.Sacks[0].Goal = 0 }), lists(nil, list(0, 1)), 9},
		{"the ship can carry both", with(two(), func(r *sack.Roads) { r.Trips[1].Load = 189 }), lists(list(0, 1), list(0, 1)), 18},
		{"back to where it was", with(two(), func(r *sack.Roads) { r.Trips[1].To, r.Sacks[0].Goal, r.Sacks[1].Goal = 0, 0, 2 }), lists(nil, list(0, 2)), 12},
	} {
		t.Run(y.name, func(t *testing.T) { sends(t, y.r, y.want, y.days) })
	}
}

// P10.5, P10.6, by hand
func TestIdentifyAndOdd(t *testing.T) {
	all := func(place, mark int) sack.Find { return find(place, 0, 1000, mark) }
	// Four sacks that stay: 10 to 20, 15 to 25, 30, and 30 with another mark.
	four := sack.Roads{Places: 2, Sacks: []sack.Sack{bag(0, 0, 0, 10, 20, 1), bag(0, 0, 0, 15, 25, 1), bag(0, 0, 0, 30, 30, 1), bag(1, 1, 0, 30, 30, 2)}}
	home := nobody(four)
	for _, y := range []struct {
		name string
		l    []sack.Find
		want [][]int
	}{
		{"no finds", nil, nil},
		{"all that are there", finds(all(0, 0)), lists(list(0, 1, 2))},
		{"the only one that is there", finds(all(1, 0)), lists(list(3))},
		{"the lower end", finds(find(0, 0, 10, 0)), lists(list(0))},
		{"the upper end", finds(find(0, 20, 29, 1)), lists(list(0, 1))},
		{"above the upper end", finds(find(0, 21, 29, 1)), lists(list(1))},
		{"a mark that can be read", finds(all(0, 1)), lists(list(0, 1, 2))},
		{"each other's", finds(find(0, 15, 20, 0), find(0, 15, 20, 1)), lists(list(0, 1), list(0, 1))},
		{"what is left", finds(all(0, 0), find(0, 30, 40, 0)), lists(list(0, 1), list(2))},
		{"what is left after what is left", finds(all(0, 0), find(0, 10, 20, 0), find(0, 10, 14, 0)), lists(list(2), list(1), list(0))},
		{"all of them", finds(all(1, 0), all(0, 0), all(0, 1), all(0, 0)), lists(list(3), list(0, 1, 2), list(0, 1, 2), list(0, 1, 2))},
	} {
		t.Run(y.name, func(t *testing.T) { tells(t, four, home, y.l, y.want) })
	}
	for _, y := range []struct {
		name string
		l    []sack.Find
		want []int
	}{
		{"a mark that nobody has", finds(all(0, 3)), list(0)},
		{"the mark of one elsewhere", finds(all(0, 0), all(0, 2)), list(1)},
		{"nobody is there with such a weight", finds(find(0, 26, 29, 0)), list(0)},
		{"too light", finds(find(1, 0, 29, 2)), list(0)},
		{"too heavy", finds(find(1, 31, 1000, 2)), list(0)},
		{"one too many", finds(all(0, 0), all(0, 0), all(1, 0), all(0, 0), all(0, 0)), list(0)},
		{"one too many that is narrow", finds(find(0, 10, 10, 0), all(0, 0), find(0, 11, 12, 0), all(0, 0)), list(0)},
		{"the later one, since the first one can be no other", finds(all(1, 0), find(0, 0, 9, 0), all(1, 2)), list(0, 1)},
		{"six of them", slices.Repeat(finds(all(0, 0)), 6), list(0, 1, 2)},
		{"six of one", slices.Repeat(finds(all(1, 0)), 6), list(0, 1, 2, 3, 4)},
		{"six of nobody", slices.Repeat(finds(all(1, 1)), 6), list(0, 1, 2, 3, 4, 5)},
		{"two that are in the way of each other, and one by itself", finds(find(0, 30, 30, 0), all(0, 9), find(0, 27, 30, 1)), list(0, 1)},
	} {
		t.Run(y.name, func(t *testing.T) { leaves(t, four, home, y.l, y.want) })
	}
	// Where they come, and what is left then.
	tells(t, two(), hers(), finds(all(2, 0), all(2, 0)), lists(list(0, 1), list(0, 1)))
	tells(t, two(), hers(), finds(find(2, 80, 93, 0)), lists(list(0, 1)))
	leaves(t, two(), hers(), finds(find(2, 81, 92, 0)), list(0))
	leaves(t, two(), hers(), finds(find(0, 0, 1000, 1)), list(0))
	leaves(t, two(), hers(), finds(find(1, 0, 1000, 0)), list(0))
}

// tries calls a function with roads whose sacks have few courses, a plan of each, and all courses.
func tries(seed uint64, call func(r *rand.Rand, x sack.Roads, p sack.Plan, all allCourses)) {
	r := chance(seed)
	for range 2000 {
		x := draw(r, small)
		p := drawPlan(r, x)
		call(r, x, p, coursesOf(x, p))
	}
}

// P10.1: any numbers are tried.
func TestPlayByTheReference(t *testing.T) {
	yes, no := 0, 0
	tries(11, func(r *rand.Rand, x sack.Roads, p sack.Plan, _ allCourses) {
		for range 20 {
			y := drawTruth(r, x, p)
			for range r.IntN(3) {
				if i := r.IntN(len(p)); len(p[i]) > 0 {
					k := r.IntN(len(p[i]))
					y.Lost[i][k] = max(0, y.Lost[i][k]+between(r, -2, 2))
				}
			}
			want, can := played(x, p, y)
			if weights, is, e := sack.Play(x, p, y); !slices.Equal(weights, want) || is != can || e != api.OK {
				t.Fatalf("Play of %v, %v, %v: %v, %v, %v, not %v, %v", x, p, y, weights, is, e, want, can)
			}
			if can {
				yes++
			} else {
				no++
			}
		}
	})
	if yes < 1000 || no < 1000 {
		t.Errorf("%d truths, and %d others", yes, no)
	}
}

// P10.2, P10.3, P10.4: all courses are tried.
func TestPlansByAllCourses(t *testing.T) {
	var lengths [7]int
	right, late, over, both := 0, 0, 0, 0
	tries(12, func(_ *rand.Rand, x sack.Roads, p sack.Plan, all allCourses) {
		weighs(t, x, p, all.bounds())
		var places, days, tardy []int
		for i, l := range p {
			lengths[len(l)]++
			place, day := arrives(x, i, l)
			places, days = append(places, place), append(days, day)
			if !inTime(x, i, l) {
				tardy = append(tardy, i)
			}
		}
		comes(t, x, p, places, days)
		heavy := all.over(x, p)
		fails(t, x, p, tardy, heavy)
		ok := len(tardy)+len(heavy) == 0
		switch {
		case ok:
			right++
		case len(tardy) > 0 && len(heavy) > 0:
			both++
		case len(tardy) > 0:
			late++
		default:
			over++
		}
		sum := daysOf(x, p)
		for _, n := range list(sum-1, sum, sum+1, math.MinInt, math.MaxInt, -1, 0) {
			if sack.ProvePlan(x, p, n) != (ok && sum <= n) {
				t.Fatalf("ProvePlan of %v, %v, %d", x, p, n)
			}
		}
	})
	if right < 100 || late < 500 || over < 50 || both < 200 || lengths[0] < 500 || lengths[1] < 500 || lengths[2] < 200 || lengths[3] < 50 {
		t.Errorf("%d plans are right, %d late, %d too heavy, %d both; so many lists of each length: %v", right, late, over, both, lengths)
	}
}

// P10.2, P10.3 of sacks with too many courses: all numbers between the ends can be.
func TestPlansBySets(t *testing.T) {
	r, moved := chance(13), 0
	for range 100 {
		x := draw(r, large)
		p := drawPlan(r, x)
		var weights []sack.Range
		carried := make([]int, len(x.Trips))
		for i, l := range p {
			moved += len(l)
			numbers := numbersOf(x, i, l)
			for k, at := range numbers {
				b, all := spread(at)
				if !all {
					t.Fatalf("%v, %v: sack %d cannot have all weights of %v", x, p, i, b)
				}
				if k == len(l) {
					weights = append(weights, b)
				} else {
					carried[l[k]] += b.Hi
				}
			}
		}
		weighs(t, x, p, weights)
		var heavy []int
		for k, n := range carried {
			if n > x.Trips[k].Load {
				heavy = append(heavy, k)
			}
		}
		if over, e := sack.Over(x, p); !slices.Equal(over, heavy) || e != api.OK {
			t.Fatalf("Over of %v, %v: %v, %v, not %v", x, p, over, e, heavy)
		}
	}
	if moved < 100 {
		t.Errorf("only %d trips", moved)
	}
}

// P10.4, P10.8: all plans are tried.
func TestBestByAllPlans(t *testing.T) {
	r := chance(14)
	var travellers [5]int
	none, crowded, long := 0, 0, 0
	check := func(x sack.Roads) {
		want, can := best(x)
		if !can {
			none++
			cannot(t, x)
			free := with(x, func(x *sack.Roads) {
				for k := range x.Trips {
					x.Trips[k].Load = 4000
				}
			})
			if _, can := best(free); can {
				crowded++
			}
			return
		}
		n := 0
		for _, l := range want {
			if len(l) > 0 {
				n++
			}
			if len(l) > 1 {
				long++
			}
		}
		travellers[n]++
		sends(t, x, want, daysOf(x, want))
	}
	for range 4000 {
		check(draw(r, busy))
		check(draw(r, large))
	}
	// All go the same way, and are in the way of each other.
	for range 2000 {
		x := draw(r, busy)
		x.Places = 3
		for i := range x.Sacks {
			x.Sacks[i].Start, x.Sacks[i].Goal, x.Sacks[i].Due = 0, 1, between(r, 15, 30)
		}
		for k := range x.Trips {
			x.Trips[k].From, x.Trips[k].To, x.Trips[k].Load = 0, 1, between(r, 40, 250)
			if r.IntN(3) == 0 {
				x.Trips[k].To = 2
			} else if r.IntN(3) == 0 {
				x.Trips[k].From = 2
			}
			x.Trips[k].Day, x.Trips[k].Days = r.IntN(20), between(r, 1, 5)
		}
		check(x)
	}
	if none < 1000 || crowded < 500 || long < 300 || travellers[0] < 200 || travellers[1] < 300 || travellers[2] < 200 || travellers[3] < 100 || travellers[4] < 50 {
		t.Errorf("none: %d, of those because of loads %d; %d take several trips; so many with each number of travellers: %v", none, crowded, long, travellers)
	}
}

// P10.5, P10.6, P10.11, P10.12, P6: all identifications, and all sets, are tried.
func TestFindsByTheReference(t *testing.T) {
	r := chance(15)
	var lengths [7]int
	several := 0
	for _, z := range []size{small, busy, large} {
		for range 600 {
			x := draw(r, z)
			p := drawPlan(r, x)
			ends := endsOf(x, p)
			for range 3 {
				l := drawFinds(r, x, p, r.IntN(7), []int{0, 5, 300}[r.IntN(3)])
				want := odd(x, p, ends, l)
				lengths[len(want)]++
				if len(want) > 0 {
					leaves(t, x, p, l, want)
					l = without(l, want)
				}
				sacks := identified(identifications(x, p, ends, l), len(l))
				tells(t, x, p, l, sacks)
				for _, some := range sacks {
					if len(some) > 1 {
						several++
					}
				}
			}
		}
	}
	if lengths[0] < 1000 || lengths[1] < 500 || lengths[2] < 300 || lengths[3] < 100 || lengths[4] < 50 || several < 500 {
		t.Errorf("so many sets of each length: %v; %d finds can be several sacks", lengths, several)
	}
}
