package crop_test

import (
	"math/rand/v2"
	"slices"
	"testing"

	"nochez/api"
	"nochez/crop"
	"nochez/grow"
)

// bestOf, aboveOf and playOf call a function that has no error here.
func bestOf(t *testing.T, s crop.Season) ([][]int, int) {
	p, n, e := crop.Best(s)
	if e != api.OK || len(p) != s.Days {
		t.Fatalf("Best of %v: %v, %d, %v", s, p, n, e)
	}
	return p, n
}

func aboveOf(t *testing.T, s crop.Season, begun [][]int) int {
	n, e := crop.Above(s, begun)
	if e != api.OK {
		t.Fatalf("Above of %v, %v: %v", s, begun, e)
	}
	return n
}

func playOf(t *testing.T, s crop.Season, p [][]int, weather int) (taken [][]int, left []int) {
	taken, left, e := crop.Play(s, p, weather)
	if e != api.OK || len(taken) != s.Days || len(left) != len(s.Terraces) {
		t.Fatalf("Play of %v, %v in %d: %v, %v, %v", s, p, weather, taken, left, e)
	}
	return taken, left
}

// sum adds up all numbers of some lists.
func sum(all [][]int) (n int) {
	for _, l := range all {
		for _, x := range l {
			n += x
		}
	}
	return n
}

// P4.6, P3: in each weather the best plan has at least its worst harvest.
func TestInEachWeather(t *testing.T) {
	seasons(21, func(_ *rand.Rand, s crop.Season, _ [][]int) {
		p, n := bestOf(t, s)
		least := -1
		for w := range s.Weathers {
			taken, _ := playOf(t, s, p, w)
			if got := sum(taken); least < 0 || got < least {
				least = got
			}
		}
		if least != n {
			t.Fatalf("Best of %v: %v, which has %d, not %d", s, p, least, n)
		}
	})
}

// P4.6, P5: no plan that is drawn has a greater worst harvest, or the same one and is smaller.
func TestNoBetterPlan(t *testing.T) {
	asGood := 0
	seasons(22, func(r *rand.Rand, s crop.Season, _ [][]int) {
		p, n := bestOf(t, s)
		for range 30 {
			other := drawPlan(r, s)
			if r.IntN(2) == 0 {
				other = append(slices.Clone(p[:r.IntN(s.Days)]), other...)[:s.Days]
			}
			got, _, e := crop.Worst(s, other)
			if e != api.OK || got > n || crop.ProveWorst(s, other, n+1) || got == n && comparePlans(other, p) < 0 {
				t.Fatalf("Best of %v: %v, %d, but %v has %d, %v", s, p, n, other, got, e)
			}
			if got == n && comparePlans(other, p) > 0 {
				asGood++
			}
		}
	})
	if asGood < 1000 {
		t.Errorf("only %d plans are as good as the best one", asGood)
	}
}

// P4.7, P4
func TestWhatWasThere(t *testing.T) {
	exact, less := 0, 0
	check := func(s crop.Season, p [][]int, w int) {
		taken, left := playOf(t, s, p, w)
		for i, x := range s.Terraces {
			got := left[i]
			for d, l := range p {
				if at := slices.Index(l, i); at >= 0 {
					got += taken[d][at]
				}
			}
			all := x.First + sum([][]int{s.Weathers[w]})
			if got > all || all <= x.Most && got != all || left[i] < 0 || left[i] > x.Most {
				t.Fatalf("%v, %v in %d: terrace %d has had %d of %d, and has %d", s, p, w, i, got, all, left[i])
			}
			if all <= x.Most {
				exact++
			}
			if got < all {
				less++
			}
		}
	}
	seasons(23, func(r *rand.Rand, s crop.Season, p [][]int) {
		for w := range s.Weathers {
			check(s, p, w)
			wide := clone(s)
			for i := range wide.Terraces {
				wide.Terraces[i].Most, wide.Terraces[i].First = 60, r.IntN(15)
				wide.Terraces[i].Left = r.IntN(20)
			}
			check(wide, p, w)
		}
	})
	if exact < 500 || less < 500 {
		t.Errorf("only %d terraces keep all, and %d do not", exact, less)
	}
}

// P4.8
func TestMoreWeathers(t *testing.T) {
	fewer := 0
	seasons(24, func(r *rand.Rand, s crop.Season, _ [][]int) {
		p, n := bestOf(t, s)
		for w := range s.Weathers {
			if len(s.Weathers) == 1 {
				break
			}
			without := clone(s)
			without.Weathers = slices.Delete(without.Weathers, w, w+1)
			if _, more := bestOf(t, without); more < n {
				t.Fatalf("Best of %v: %v, %d; without weather %d: %d", s, p, n, w, more)
			}
		}
		if len(s.Weathers) == 4 {
			return
		}
		with := clone(s)
		with.Weathers = slices.Insert(with.Weathers, r.IntN(len(s.Weathers)+1), make([]int, s.Days))
		_, less := bestOf(t, with)
		if less > n {
			t.Fatalf("Best of %v: %v, %d; with a weather more: %d", s, p, n, less)
		}
		if less < n {
			fewer++
		}
	})
	if fewer < 50 {
		t.Errorf("a weather more is worse in only %d seasons", fewer)
	}
}

// P4.9
func TestMoreHands(t *testing.T) {
	better := make([]int, 4)
	seasons(25, func(r *rand.Rand, s crop.Season, _ [][]int) {
		p, n := bestOf(t, s)
		i := r.IntN(len(s.Terraces))
		for kind, more := range []func(s *crop.Season, x *crop.Terrace){
			func(s *crop.Season, x *crop.Terrace) { s.Pickers = min(s.Pickers+1, 2) },
			func(s *crop.Season, x *crop.Terrace) { x.Hand = between(r, x.Hand, 60) },
			func(s *crop.Season, x *crop.Terrace) { x.First = between(r, x.First, x.Most) },
			func(s *crop.Season, x *crop.Terrace) { x.Most = between(r, x.Most, 60) },
		} {
			other := clone(s)
			more(&other, &other.Terraces[i])
			_, got := bestOf(t, other)
			if got < n {
				t.Fatalf("Best of %v: %v, %d, but of %v: %d", s, p, n, other, got)
			}
			if got > n {
				better[kind]++
			}
		}
	})
	if slices.Min(better) < 20 {
		t.Errorf("only %v seasons become better", better)
	}
}

// P4.10
func TestMoreGrowth(t *testing.T) {
	better := 0
	seasons(26, func(r *rand.Rand, s crop.Season, p [][]int) {
		w, d := r.IntN(len(s.Weathers)), r.IntN(s.Days)
		more := clone(s)
		more.Weathers[w][d] = between(r, s.Weathers[w][d], 20)
		before, _ := playOf(t, s, p, w)
		after, _ := playOf(t, more, p, w)
		if sum(after) < sum(before) {
			t.Fatalf("%v, %v in %d: %v; with more on day %d: %v", s, p, w, before, d, after)
		}
		if sum(after) > sum(before) {
			better++
		}
	})
	if better < 40 {
		t.Errorf("only %d harvests become greater", better)
	}
}

// P4.11
func TestStepByStep(t *testing.T) {
	seasons(27, func(r *rand.Rand, s crop.Season, p [][]int) {
		best, n := bestOf(t, s)
		if aboveOf(t, s, nil) != n || aboveOf(t, s, best) != n {
			t.Fatalf("Best of %v: %v, %d, but Above of it is %d", s, best, n, aboveOf(t, s, best))
		}
		if r.IntN(2) == 0 {
			p = best
		}
		for length := range s.Days {
			now, same := aboveOf(t, s, p[:length]), false
			for _, l := range days(s) {
				further := aboveOf(t, s, append(slices.Clone(p[:length]), l))
				if further > now {
					t.Fatalf("Above of %v, %v is %d, with %v further %d", s, p[:length], now, l, further)
				}
				same = same || further == now
			}
			if !same {
				t.Fatalf("Above of %v, %v is %d, and less with each further list", s, p[:length], now)
			}
		}
		if worst, _, e := crop.Worst(s, p); aboveOf(t, s, p) != worst || e != api.OK {
			t.Fatalf("Above of %v, %v is not %d", s, p, worst)
		}
	})
}

// P4.12, P7
func TestAnyOrder(t *testing.T) {
	seasons(28, func(r *rand.Rand, s crop.Season, _ [][]int) {
		p, n := bestOf(t, s)
		other := clone(s)
		r.Shuffle(len(other.Weathers), func(i, j int) {
			other.Weathers[i], other.Weathers[j] = other.Weathers[j], other.Weathers[i]
		})
		if q, got := bestOf(t, other); got != n || !same(p, q) {
			t.Fatalf("Best of %v: %v, %d, but of %v: %v, %d", s, p, n, other, q, got)
		}
		r.Shuffle(len(other.Terraces), func(i, j int) {
			other.Terraces[i], other.Terraces[j] = other.Terraces[j], other.Terraces[i]
		})
		if q, got := bestOf(t, other); got != n {
			t.Fatalf("Best of %v: %v, %d, but of %v: %v, %d", s, p, n, other, q, got)
		}
	})
}

// P4.13
func TestNobodyPicks(t *testing.T) {
	full := 0
	seasons(29, func(_ *rand.Rand, s crop.Season, _ [][]int) {
		s = with(s, 0)
		p, n := bestOf(t, s)
		for w := range s.Weathers {
			taken, left := playOf(t, s, p, w)
			if n != 0 || len(slices.Concat(p...)) != 0 || len(slices.Concat(taken...)) != 0 {
				t.Fatalf("Best of %v: %v, %d; taken are %v", s, p, n, taken)
			}
			for i, x := range s.Terraces {
				if all := x.First + sum([][]int{s.Weathers[w]}); left[i] != min(all, x.Most) {
					t.Fatalf("%v in %d: terrace %d has %d", s, w, i, left[i])
				}
				if left[i] == x.Most {
					full++
				}
			}
		}
	})
	if full < 500 {
		t.Errorf("only %d terraces are full", full)
	}
}

// drawTruth draws a truth of a field's brood, which need not agree with its observations.
func drawTruth(r *rand.Rand, f crop.Field) grow.Truth {
	b := f.Brood
	y := grow.Truth{Number: between(r, b.Number.Lo, b.Number.Hi)}
	sum, alive := 0, y.Number
	for _, d := range b.Days {
		warmth := between(r, d.Warmth.Lo, d.Warmth.Hi)
		sum += warmth
		weak := b.Weak[0]
		if sum >= b.Needs[0] {
			weak = b.Weak[1]
		}
		dead := between(r, alive*d.Loss.Lo*weak/100000, (alive*d.Loss.Hi*weak+99999)/100000)
		alive -= dead
		y.Warmth, y.Dead = append(y.Warmth, warmth), append(y.Dead, dead)
	}
	return y
}

// P4.14, P3
func TestOnTheReadyDay(t *testing.T) {
	r, tried := chance(30), 0
	for range 1500 {
		f := drawField(r)
		l, e := crop.Ready([]crop.Field{f})
		if e != api.OK || l[0] < 0 {
			continue
		}
		for range 60 {
			y := drawTruth(r, f)
			if !grow.ProveTruth(f.Brood, f.Seen, y) {
				continue
			}
			tried++
			stages, alive, _, e := grow.Play(f.Brood, y)
			if e != api.OK || stages[l[0]] != 1 || alive[l[0]] < f.Number {
				t.Fatalf("Ready of %v: %v, but of %v %v are in the stages %v, %v", f, l, y, alive, stages, e)
			}
		}
	}
	if tried < 5000 {
		t.Errorf("only %d truths", tried)
	}
}
