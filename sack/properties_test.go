package sack_test

import (
	"math/rand/v2"
	"slices"
	"testing"

	"nochez/api"
	"nochez/sack"
)

// some calls a function with roads of all sizes, and a plan of each.
func some(seed uint64, call func(r *rand.Rand, x sack.Roads, p sack.Plan)) {
	r := chance(seed)
	for _, z := range []size{small, busy, large} {
		for range 600 {
			x := draw(r, z)
			call(r, x, drawPlan(r, x))
		}
	}
}

// found calls a function with roads of all sizes, a plan and finds of each, which are possible or not.
func found(seed uint64, longest int, call func(r *rand.Rand, x sack.Roads, p sack.Plan, l []sack.Find)) {
	some(seed, func(r *rand.Rand, x sack.Roads, p sack.Plan) {
		call(r, x, p, drawFinds(r, x, p, r.IntN(longest+1), []int{0, 5, 300}[r.IntN(3)]))
	})
}

func weightsOf(t *testing.T, x sack.Roads, p sack.Plan) []sack.Range {
	t.Helper()
	l, e := sack.Weights(x, p)
	if e != api.OK || len(l) != len(x.Sacks) {
		t.Fatalf("Weights of %v, %v: %v, %v", x, p, l, e)
	}
	return l
}

func overOf(t *testing.T, x sack.Roads, p sack.Plan) []int {
	t.Helper()
	l, e := sack.Over(x, p)
	if e != api.OK || !slices.IsSorted(l) {
		t.Fatalf("Over of %v, %v: %v, %v", x, p, l, e)
	}
	return l
}

// oddOf returns the smallest set of finds.
func oddOf(t *testing.T, x sack.Roads, p sack.Plan, l []sack.Find) []int {
	t.Helper()
	set, e := sack.Odd(x, p, l)
	if e != api.OK || len(set) > len(l) {
		t.Fatalf("Odd of %v, %v, %v: %v, %v", x, p, l, set, e)
	}
	return set
}

// sacksOf returns the sacks that finds can be, and whether they are possible.
func sacksOf(t *testing.T, x sack.Roads, p sack.Plan, l []sack.Find) ([][]int, bool) {
	t.Helper()
	sacks, e := sack.Identify(x, p, l)
	if e != api.OK && e != api.ErrFalse || e == api.OK && len(sacks) != len(l) || e != api.OK && len(sacks) > 0 {
		t.Fatalf("Identify of %v, %v, %v: %v, %v", x, p, l, sacks, e)
	}
	return sacks, e == api.OK
}

// bestOf returns the best plan and its days, if there is one.
func bestOf(t *testing.T, x sack.Roads) (p sack.Plan, n int, can bool) {
	t.Helper()
	p, n, e := sack.Best(x)
	if e != api.OK && e != api.ErrMiss || e == api.OK && (len(p) != len(x.Sacks) || n != daysOf(x, p)) {
		t.Fatalf("Best of %v: %v, %d, %v", x, p, n, e)
	}
	return p, n, e == api.OK
}

// P10.7, P2, P4: whatever is lost, the weights are within their bounds; and some truths have the ends of them.
func TestToTheOunce(t *testing.T) {
	some(21, func(r *rand.Rand, x sack.Roads, p sack.Plan) {
		bounds := weightsOf(t, x, p)
		for range 5 {
			y := drawTruth(r, x, p)
			weights, can, e := sack.Play(x, p, y)
			if !can || e != api.OK || len(weights) != len(p) {
				t.Fatalf("Play of %v, %v, %v: %v, %v, %v", x, p, y, weights, can, e)
			}
			for i, n := range weights {
				left := y.Weight[i]
				for _, lost := range y.Lost[i] {
					left -= lost
				}
				if n != left || !in(bounds[i], n) {
					t.Fatalf("Play of %v, %v, %v: %v, not within %v", x, p, y, weights, bounds)
				}
			}
		}
		for _, upper := range []bool{false, true} {
			y, ends := extreme(x, p, upper)
			weights, can, e := sack.Play(x, p, y)
			if !can || e != api.OK || !slices.Equal(weights, ends) {
				t.Fatalf("Play of %v, %v, %v: %v, %v, %v, not %v", x, p, y, weights, can, e, ends)
			}
			for i, b := range bounds {
				if upper && b.Hi != ends[i] || !upper && b.Lo != ends[i] {
					t.Fatalf("Weights of %v, %v: %v, not %v", x, p, bounds, ends)
				}
			}
		}
	})
}

// extreme returns the truth in which all weigh the most at first, and as little is lost as can be, or the other way round; and the weights at the end.
func extreme(x sack.Roads, p sack.Plan, upper bool) (t sack.Truth, ends []int) {
	for i, l := range p {
		n := x.Sacks[i].Weight.Lo
		if upper {
			n = x.Sacks[i].Weight.Hi
		}
		t.Weight = append(t.Weight, n)
		var gone []int
		for _, k := range l {
			lost := 0
			for !canLose(x.Trips[k], n, lost) || !upper && canLose(x.Trips[k], n, lost+1) {
				lost++
			}
			gone, n = append(gone, lost), n-lost
		}
		t.Lost, ends = append(t.Lost, gone), append(ends, n)
	}
	return t, ends
}

// carries returns how much each trip carries in a truth.
func carries(x sack.Roads, p sack.Plan, t sack.Truth) []int {
	carried := make([]int, len(x.Trips))
	for i, l := range p {
		n := t.Weight[i]
		for k, trip := range l {
			carried[trip] += n
			n -= t.Lost[i][k]
		}
	}
	return carried
}

// P10.3, P3: what can be overloaded is so in the truth with the most ounces; what cannot, in none.
func TestOverInTruths(t *testing.T) {
	over, fine := 0, 0
	some(22, func(r *rand.Rand, x sack.Roads, p sack.Plan) {
		heavy := overOf(t, x, p)
		y, _ := extreme(x, p, true)
		for k, n := range carries(x, p, y) {
			is := slices.Contains(heavy, k)
			if is != (n > x.Trips[k].Load) {
				t.Fatalf("Over of %v, %v: %v, but trip %d can have to carry %d", x, p, heavy, k, n)
			}
			if is {
				over++
			} else {
				fine++
			}
		}
		for range 5 {
			for k, n := range carries(x, p, drawTruth(r, x, p)) {
				if n > x.Trips[k].Load && !slices.Contains(heavy, k) {
					t.Fatalf("Over of %v, %v: %v, but trip %d can have to carry %d", x, p, heavy, k, n)
				}
			}
		}
	})
	if over < 200 || fine < 1000 {
		t.Errorf("%d trips are overloaded, %d are not", over, fine)
	}
}

// P10.8, P3, P5
func TestNoBetterPlan(t *testing.T) {
	right, others, none := 0, 0, 0
	some(23, func(r *rand.Rand, x sack.Roads, _ sack.Plan) {
		p, n, can := bestOf(t, x)
		if can {
			right++
			fails(t, x, p, nil, nil)
			for range 5 {
				y := drawTruth(r, x, p)
				if _, can, e := sack.Play(x, p, y); !can || e != api.OK {
					t.Fatalf("Play of %v, %v, %v: %v, %v", x, p, y, can, e)
				}
				for k, ounces := range carries(x, p, y) {
					if ounces > x.Trips[k].Load {
						t.Fatalf("Best of %v: %v, but trip %d carries %d", x, p, k, ounces)
					}
				}
			}
			for i, l := range p {
				if !inTime(x, i, l) {
					t.Fatalf("Best of %v: %v, but sack %d is late", x, p, i)
				}
			}
		} else {
			none++
		}
		tried := 0
		everyPlan(x, func(q sack.Plan) {
			if tried++; tried > 2000 || !sack.ProvePlan(x, q, 1000) {
				return
			}
			others++
			if m := daysOf(x, q); !can || m < n || m == n && comparePlans(q, p) < 0 {
				t.Fatalf("Best of %v: %v, %d, but %v is right", x, p, n, q)
			}
		})
	})
	if right < 300 || none < 300 || others < 600 {
		t.Errorf("%d have a best plan, %d have none; %d plans are right", right, none, others)
	}
}

// P10.9: in any order, and with what else may not be known of finds.
func TestFound(t *testing.T) {
	several := 0
	some(24, func(r *rand.Rand, x sack.Roads, p sack.Plan) {
		weights, _ := played(x, p, drawTruth(r, x, p))
		order := r.Perm(len(p))
		var exact, vague []sack.Find
		for _, i := range order {
			place, _ := arrives(x, i, p[i])
			exact = append(exact, find(place, weights[i], weights[i], x.Sacks[i].Mark))
			vague = append(vague, find(place, r.IntN(weights[i]+1), between(r, weights[i], 1000), x.Sacks[i].Mark*r.IntN(2)))
		}
		for _, l := range [][]sack.Find{exact, vague} {
			sacks, can := sacksOf(t, x, p, l)
			if set := oddOf(t, x, p, l); !can || len(set) > 0 {
				t.Fatalf("Odd of %v, %v, %v: %v", x, p, l, set)
			}
			for k, i := range order {
				if !slices.Contains(sacks[k], i) {
					t.Fatalf("Identify of %v, %v, %v: %v, but find %d is sack %d", x, p, l, sacks, k, i)
				}
				if len(sacks[k]) > 1 {
					several++
				}
			}
		}
	})
	if several < 200 {
		t.Errorf("only %d can be several sacks", several)
	}
}

// P10.10
func TestMoreFinds(t *testing.T) {
	kept, odder, fewer := 0, 0, 0
	check := func(x sack.Roads, p sack.Plan, l, more []sack.Find) {
		t.Helper()
		one, two := oddOf(t, x, p, l), oddOf(t, x, p, more)
		before, can := sacksOf(t, x, p, l)
		after, still := sacksOf(t, x, p, more)
		if len(two) < len(one) || len(two) > len(one)+1 || can != (len(one) == 0) || still != (len(two) == 0) {
			t.Fatalf("Odd of %v, %v, %v: %v; of %v: %v", x, p, l, one, more, two)
		}
		if len(two) > len(one) {
			odder++
		}
		if !still {
			return
		}
		kept++
		for k, sacks := range before {
			if slices.ContainsFunc(after[k], func(i int) bool { return !slices.Contains(sacks, i) }) {
				t.Fatalf("Identify of %v, %v, %v: %v; of %v: %v", x, p, l, before, more, after)
			}
			if len(after[k]) < len(sacks) {
				fewer++
			}
		}
	}
	found(25, 5, func(r *rand.Rand, x sack.Roads, p sack.Plan, l []sack.Find) {
		for range 3 {
			check(x, p, l, append(slices.Clone(l), drawFinds(r, x, p, 4, 50)[r.IntN(4)]))
			if len(l) > 0 {
				narrow := slices.Clone(l)
				w := &narrow[r.IntN(len(l))].Weight
				*w = within(r, *w, 100)
				check(x, p, l, narrow)
			}
		}
	})
	if kept < 500 || odder < 200 || fewer < 50 {
		t.Errorf("%d are possible, %d more are odd, %d can be fewer sacks", kept, odder, fewer)
	}
}

// P10.11
func TestIdentified(t *testing.T) {
	yes, no := 0, 0
	found(26, 4, func(_ *rand.Rand, x sack.Roads, p sack.Plan, l []sack.Find) {
		sacks, can := sacksOf(t, x, p, l)
		if !can {
			return
		}
		ends := endsOf(x, p)
		for k, y := range l {
			for i := range x.Sacks {
				others := slices.DeleteFunc(identifications(x, p, ends, without(l, list(k))), func(given []int) bool { return slices.Contains(given, i) })
				is := canBe(x, p, ends, y, i) && len(others) > 0
				if is != slices.Contains(sacks[k], i) {
					t.Fatalf("Identify of %v, %v, %v: %v, but whether find %d can be sack %d: %v", x, p, l, sacks, k, i, is)
				}
				if is {
					yes++
				} else {
					no++
				}
			}
		}
	})
	if yes < 500 || no < 500 {
		t.Errorf("%d can be, %d cannot", yes, no)
	}
}

// P10.12, P6: any set is tried, by the package's own word for what is possible.
func TestLeftOut(t *testing.T) {
	var lengths [7]int
	found(27, 6, func(_ *rand.Rand, x sack.Roads, p sack.Plan, l []sack.Find) {
		set := oddOf(t, x, p, l)
		lengths[len(set)]++
		for _, other := range sets(len(l)) {
			_, can := sacksOf(t, x, p, without(l, other))
			if slices.Equal(other, set) {
				if !can {
					t.Fatalf("%v, %v, %v: %v cannot be left out", x, p, l, set)
				}
				return
			}
			if can {
				t.Fatalf("Odd of %v, %v, %v: %v, but %v can be left out", x, p, l, set, other)
			}
		}
		t.Fatalf("Odd of %v, %v, %v: %v", x, p, l, set)
	})
	if lengths[0] < 200 || lengths[1] < 100 || lengths[2] < 100 || lengths[3] < 50 || lengths[4] < 20 {
		t.Errorf("so many sets of each length: %v", lengths)
	}
}

// P10.13
func TestEasier(t *testing.T) {
	fewer, more, without := 0, 0, 0
	some(28, func(r *rand.Rand, x sack.Roads, _ sack.Plan) {
		_, before, can := bestOf(t, x)
		for range 10 {
			easy := with(x, func(x *sack.Roads) {
				if n := len(x.Trips); n > 0 && r.IntN(2) == 0 {
					t := &x.Trips[r.IntN(n)]
					t.Load = between(r, t.Load, 4000)
				} else {
					s := &x.Sacks[r.IntN(len(x.Sacks))]
					s.Due = between(r, s.Due, 30)
				}
			})
			_, after, still := bestOf(t, easy)
			if can && (!still || after > before) {
				t.Fatalf("Best of %v: %d; of %v: %d, %v", x, before, easy, after, still)
			}
			if can && after < before {
				fewer++
			}
			if !can && still {
				more++
			}
		}
		for n := len(x.Sacks) - 1; n > 0 && can; n-- {
			less := x
			less.Sacks = x.Sacks[:n]
			_, after, still := bestOf(t, less)
			if !still || after > before {
				t.Fatalf("Best of %v: %d; of %v: %d, %v", x, before, less, after, still)
			}
			before = after
			without++
		}
	})
	if fewer < 10 || more < 50 || without < 100 {
		t.Errorf("%d have fewer days, %d a plan instead of none, %d have one sack less", fewer, more, without)
	}
}

// P10.14
func TestMoreLoss(t *testing.T) {
	lower, lighter := 0, 0
	check := func(x, more sack.Roads, p sack.Plan) {
		t.Helper()
		before, after := weightsOf(t, x, p), weightsOf(t, more, p)
		for i, b := range after {
			if b.Lo > before[i].Lo || b.Hi > before[i].Hi {
				t.Fatalf("Weights of %v, %v: %v; of %v: %v", x, p, before, more, after)
			}
			if b != before[i] {
				lower++
			}
		}
		heavy, light := overOf(t, x, p), overOf(t, more, p)
		if slices.ContainsFunc(light, func(k int) bool { return !slices.Contains(heavy, k) }) {
			t.Fatalf("Over of %v, %v: %v; of %v: %v", x, p, heavy, more, light)
		}
		if len(light) < len(heavy) {
			lighter++
		}
	}
	some(29, func(r *rand.Rand, x sack.Roads, p sack.Plan) {
		for k := range x.Trips {
			check(x, with(x, func(x *sack.Roads) {
				loss := &x.Trips[k].Loss
				high := between(r, loss.Hi, 1000)
				*loss = to(between(r, loss.Lo, high), high)
			}), p)
		}
	})
	if lower < 500 || lighter < 20 {
		t.Errorf("%d weigh less, %d plans have less to carry", lower, lighter)
	}
}

// P10.15
func TestNobodyTravels(t *testing.T) {
	home, away := 0, 0
	some(30, func(r *rand.Rand, x sack.Roads, _ sack.Plan) {
		x = with(x, func(x *sack.Roads) {
			s := &x.Sacks[r.IntN(len(x.Sacks))]
			s.Goal = s.Start
		})
		p, _, can := bestOf(t, x)
		if !can {
			return
		}
		_, days, e := sack.Come(x, p)
		for i, s := range x.Sacks {
			stays := s.Start == s.Goal
			if stays != (len(p[i]) == 0) || stays != (days[i] == 0) || e != api.OK {
				t.Fatalf("Best of %v: %v; %v, %v", x, p, days, e)
			}
			if stays {
				home++
			} else {
				away++
			}
		}
	})
	if home < 300 || away < 100 {
		t.Errorf("%d stay, %d do not", home, away)
	}
}

// P7
func TestAnyOrder(t *testing.T) {
	found(31, 6, func(r *rand.Rand, x sack.Roads, p sack.Plan, l []sack.Find) {
		order := r.Perm(len(l))
		other := make([]sack.Find, len(l))
		for k, into := range order {
			other[into] = l[k]
		}
		if one, two := oddOf(t, x, p, l), oddOf(t, x, p, other); len(one) != len(two) {
			t.Fatalf("Odd of %v, %v, %v: %v; in another order: %v", x, p, l, one, two)
		}
		before, can := sacksOf(t, x, p, l)
		after, still := sacksOf(t, x, p, other)
		if can != still {
			t.Fatalf("Identify of %v, %v, %v: %v; in another order: %v", x, p, l, before, after)
		}
		for k, into := range order {
			if can && !slices.Equal(before[k], after[into]) {
				t.Fatalf("Identify of %v, %v, %v: %v; in another order: %v", x, p, l, before, after)
			}
		}
	})
}
