package grow_test

import (
	"slices"
	"testing"

	"nochez/api"
	"nochez/grow"
)

// P2.1
func TestPlay(t *testing.T) {
	for _, x := range []struct {
		name          string
		make          func(y *grow.Truth)
		stages, alive []int
		can           bool
	}{
		{"as it is", func(y *grow.Truth) {}, list(0, 1, 2), list(40, 40, 40), true},
		{"fewest dead, rounded down", func(y *grow.Truth) { y.Dead[0] = 4 }, list(0, 1, 2), list(41, 41, 41), true},
		{"fewer dead", func(y *grow.Truth) { y.Dead[0] = 3 }, list(0, 1, 2), list(42, 42, 42), false},
		{"most dead, not rounded", func(y *grow.Truth) { y.Dead[0] = 9 }, list(0, 1, 2), list(36, 36, 36), true},
		{"more dead", func(y *grow.Truth) { y.Dead[0] = 10 }, list(0, 1, 2), list(35, 35, 35), false},
		{"most dead, rounded up", func(y *grow.Truth) { y.Number, y.Dead[0] = 46, 10 }, list(0, 1, 2), list(36, 36, 36), true},
		{"more dead than rounded up", func(y *grow.Truth) { y.Number, y.Dead[0] = 46, 11 }, list(0, 1, 2), list(35, 35, 35), false},
		{"dead of a stage that is not weak", func(y *grow.Truth) { y.Dead[2] = 1 }, list(0, 1, 2), list(40, 40, 39), false},
		{"no dead of a weak stage", func(y *grow.Truth) { y.Warmth[1] = 4 }, list(0, 0, 1), list(40, 40, 40), false},
		{"dead of a stage half as weak", func(y *grow.Truth) { y.Warmth[1], y.Dead[2] = 4, 4 }, list(0, 0, 1), list(40, 40, 36), true},
		{"of 41, 4 or 5", func(y *grow.Truth) { y.Warmth[1], y.Dead[0], y.Dead[2] = 4, 4, 5 }, list(0, 0, 1), list(41, 41, 36), true},
		{"of 41, not 6", func(y *grow.Truth) { y.Warmth[1], y.Dead[0], y.Dead[2] = 4, 4, 6 }, list(0, 0, 1), list(41, 41, 35), false},
		{"dead without a loss", func(y *grow.Truth) { y.Dead[1] = 1 }, list(0, 1, 2), list(40, 39, 39), false},
		{"below 0", func(y *grow.Truth) { y.Dead = list(100, 0, 100) }, list(0, 1, 2), list(-55, -55, -155), false},
		{"the sum is just what is needed", func(y *grow.Truth) { y.Warmth = list(6, 4, 9) }, list(0, 1, 1), list(40, 40, 40), false},
		{"the sum is just what the last stage needs", func(y *grow.Truth) { y.Warmth = list(6, 8, 6) }, list(0, 1, 2), list(40, 40, 40), true},
	} {
		y := fine()
		x.make(&y)
		stages, alive, can, e := grow.Play(three(), y)
		if !slices.Equal(stages, x.stages) || !slices.Equal(alive, x.alive) || can != x.can || e != api.OK || grow.ProveTruth(three(), nil, y) != x.can {
			t.Errorf("%s: Play of %v: %v, %v, %v, %v", x.name, y, stages, alive, can, e)
		}
	}
}

// A day can pass several stages at once; the Weak that counts is that of the stage after the warmth.
func TestPlayOverStages(t *testing.T) {
	b := grow.Brood{Needs: list(2, 4, 6, 8), Weak: list(100, 100, 100, 0, 50), Number: to(0, 10), Days: []grow.Day{day(0, 10, 1000, 1000), day(0, 10, 1000, 1000)}}
	for _, x := range []struct {
		t             grow.Truth
		stages, alive []int
		can           bool
	}{
		{grow.Truth{Number: 10, Warmth: list(7, 3), Dead: list(0, 5)}, list(3, 4), list(10, 5), true},
		{grow.Truth{Number: 10, Warmth: list(7, 0), Dead: list(0, 0)}, list(3, 3), list(10, 10), true},
		{grow.Truth{Number: 10, Warmth: list(5, 3), Dead: list(0, 5)}, list(2, 4), list(10, 5), false},
		{grow.Truth{Number: 10, Warmth: list(1, 0), Dead: list(10, 0)}, list(0, 0), list(0, 0), true},
		{grow.Truth{Number: 0, Warmth: list(1, 9), Dead: list(0, 0)}, list(0, 4), list(0, 0), true},
		{grow.Truth{Number: 0, Warmth: list(1, 9), Dead: list(0, 1)}, list(0, 4), list(0, -1), false},
		{grow.Truth{Number: 7, Warmth: list(10, 10), Dead: list(3, 2)}, list(4, 4), list(4, 2), true},
		{grow.Truth{Number: 7, Warmth: list(10, 10), Dead: list(4, 1)}, list(4, 4), list(3, 2), true},
	} {
		stages, alive, can, e := grow.Play(b, x.t)
		if !slices.Equal(stages, x.stages) || !slices.Equal(alive, x.alive) || can != x.can || e != api.OK {
			t.Errorf("Play of %v: %v, %v, %v, %v", x.t, stages, alive, can, e)
		}
	}
}

// P2.1: Play can play just the truths of the reference, and ProveTruth holds for just those that agree.
func TestPlayByAllTruths(t *testing.T) {
	r := chance(21)
	for range 100 {
		b := draw(r, []size{small, round}[r.IntN(2)])
		l, days := drawSeen(r, b, 3), len(b.Days)
		truths(b, func(y grow.Truth, p path) {
			stages, alive, can, e := grow.Play(b, y)
			if !slices.Equal(stages, p.stages[:days]) || !slices.Equal(alive, p.alive[:days]) || !can || e != api.OK {
				t.Fatalf("Play of %v, %v: %v, %v, %v, %v", b, y, stages, alive, can, e)
			}
			if grow.ProveTruth(b, l, y) != agrees(p, l) {
				t.Fatalf("ProveTruth of %v, %v, %v: not %v", b, l, y, agrees(p, l))
			}
		})
	}
}

// Truths whose dead are drawn: they can be if each number is in the range of the reference.
func TestPlayOfAnyDead(t *testing.T) {
	r, cannot := chance(22), 0
	for range 3000 {
		b := draw(r, round)
		y, _ := drawTruth(r, b)
		want, sum, insects := true, 0, y.Number
		for i, d := range b.Days {
			sum += y.Warmth[i]
			dead := deadOf(d, max(0, insects), b.Weak[stageFor(b, sum)])
			y.Dead[i] = min(100, max(0, between(r, dead.Lo-1, dead.Hi+1)))
			want = want && insects >= 0 && in(dead, y.Dead[i])
			insects -= y.Dead[i]
		}
		_, alive, can, e := grow.Play(b, y)
		if can != want || e != api.OK || alive[len(alive)-1] != insects || grow.ProveTruth(b, nil, y) != want {
			t.Fatalf("Play of %v, %v: %v, %v, %v, not %v", b, y, alive, can, e, want)
		}
		if !want {
			cannot++
		}
	}
	if cannot < 500 {
		t.Errorf("only %d truths cannot be", cannot)
	}
}

func TestProveTruth(t *testing.T) {
	for _, x := range []struct {
		l    []grow.Seen
		want bool
	}{
		{nil, true},
		{[]grow.Seen{seen(1, 1, 1, 40, 40)}, true},
		{[]grow.Seen{seen(1, 0, 1, 40, 50)}, true},
		{[]grow.Seen{seen(1, 1, 2, 30, 40)}, true},
		{[]grow.Seen{seen(1, 0, 0, 40, 40)}, false},
		{[]grow.Seen{seen(1, 2, 2, 40, 40)}, false},
		{[]grow.Seen{seen(1, 0, 2, 41, 50)}, false},
		{[]grow.Seen{seen(1, 0, 2, 30, 39)}, false},
		{[]grow.Seen{seen(0, 0, 2, 0, 100), seen(2, 2, 2, 39, 40), seen(2, 2, 2, 40, 41)}, true},
		{[]grow.Seen{seen(0, 0, 2, 0, 100), seen(2, 2, 2, 39, 40), seen(2, 2, 2, 41, 41)}, false},
	} {
		if grow.ProveTruth(three(), x.l, fine()) != x.want {
			t.Errorf("ProveTruth with %v: not %v", x.l, x.want)
		}
	}
	cannot := fine()
	cannot.Dead[0] = 10
	if grow.ProveTruth(three(), []grow.Seen{seen(0, 0, 0, 35, 35)}, cannot) {
		t.Error("ProveTruth of a truth that cannot be")
	}
}

// tries calls a function with broods that have few truths, with observations, and with the paths that agree with them.
func tries(seed uint64, call func(b grow.Brood, l []grow.Seen, all, some []path)) {
	r := chance(seed)
	for range 400 {
		b := draw(r, []size{small, small, round}[r.IntN(3)])
		all := paths(b)
		for range 3 {
			l := drawSeen(r, b, 4)
			call(b, l, all, agreeing(all, l))
		}
	}
}

// P2.2, P2.7: the ends are those of all paths that agree.
func TestStagesAndAliveByAllTruths(t *testing.T) {
	agree, contradict := 0, 0
	tries(23, func(b grow.Brood, l []grow.Seen, _, some []path) {
		s, e := grow.Stages(b, l)
		a, f := grow.Alive(b, l)
		if len(some) == 0 {
			contradict++
			if e != api.ErrFail || f != api.ErrFail || len(s) != 0 || len(a) != 0 {
				t.Fatalf("Stages, Alive of %v, %v: %v, %v; %v, %v", b, l, s, e, a, f)
			}
			return
		}
		agree++
		if e != api.OK || f != api.OK || len(s) != len(b.Days) || len(a) != len(b.Days) {
			t.Fatalf("Stages, Alive of %v, %v: %v, %v; %v, %v", b, l, s, e, a, f)
		}
		for i := range b.Days {
			stages := bounds(some, func(p path) int { return p.stages[i] })
			alive := bounds(some, func(p path) int { return p.alive[i] })
			if s[i] != stages || a[i] != alive {
				t.Fatalf("Stages, Alive of %v, %v on %d: %v, %v, not %v, %v", b, l, i, s[i], a[i], stages, alive)
			}
		}
	})
	if agree < 300 || contradict < 100 {
		t.Errorf("%d agree, %d contradict each other", agree, contradict)
	}
}

// Numbers that the ends hide: an observation between them that no truth agrees with.
func TestBetweenTheEnds(t *testing.T) {
	for _, x := range []struct {
		l             []grow.Seen
		stages, alive []grow.Range
		e             api.Errno
	}{
		{nil, ranges(to(0, 1), to(0, 1)), ranges(to(0, 10), to(0, 10)), api.OK},
		{[]grow.Seen{seen(1, 0, 1, 1, 100)}, ranges(to(1, 1), to(1, 1)), ranges(to(10, 10), to(10, 10)), api.OK},
		{[]grow.Seen{seen(1, 0, 1, 0, 9)}, ranges(to(0, 0), to(0, 1)), ranges(to(0, 0), to(0, 0)), api.OK},
		{[]grow.Seen{seen(1, 0, 1, 1, 9)}, nil, nil, api.ErrFail},
		{[]grow.Seen{seen(0, 0, 0, 0, 100), seen(1, 0, 1, 10, 10)}, nil, nil, api.ErrFail},
		{[]grow.Seen{seen(0, 1, 1, 0, 100), seen(1, 0, 0, 0, 100)}, nil, nil, api.ErrFail},
		{[]grow.Seen{seen(0, 0, 0, 0, 100), seen(1, 1, 1, 0, 100)}, ranges(to(0, 0), to(1, 1)), ranges(to(0, 0), to(0, 0)), api.OK},
	} {
		s, e := grow.Stages(odd(), x.l)
		a, f := grow.Alive(odd(), x.l)
		if !slices.Equal(s, x.stages) || e != x.e || !slices.Equal(a, x.alive) || f != x.e {
			t.Errorf("Stages, Alive with %v: %v, %v; %v, %v", x.l, s, e, a, f)
		}
	}
}

// P2.3
func TestRipeByAllTruths(t *testing.T) {
	sure, unsure, never := 0, 0, 0
	tries(24, func(b grow.Brood, l []grow.Seen, _, some []path) {
		if len(some) == 0 {
			if d, surely, e := grow.Ripe(b, l); d != to(0, 0) || surely || e != api.ErrFail {
				t.Fatalf("Ripe of %v, %v: %v, %v, %v", b, l, d, surely, e)
			}
			return
		}
		ripe := slices.DeleteFunc(slices.Clone(some), func(p path) bool { return ripeDay(b, p) < 0 })
		d, surely, e := grow.Ripe(b, l)
		if len(ripe) == 0 {
			never++
			if d != to(0, 0) || surely || e != api.ErrMiss {
				t.Fatalf("Ripe of %v, %v: %v, %v, %v", b, l, d, surely, e)
			}
			return
		}
		want := bounds(ripe, func(p path) int { return ripeDay(b, p) })
		if d != want || surely != (len(ripe) == len(some)) || e != api.OK {
			t.Fatalf("Ripe of %v, %v: %v, %v, %v, not %v", b, l, d, surely, e, want)
		}
		if surely {
			sure++
		} else {
			unsure++
		}
	})
	if sure < 100 || unsure < 100 || never < 100 {
		t.Errorf("%d surely, %d not surely, %d never", sure, unsure, never)
	}
}

func TestRipe(t *testing.T) {
	hot, late := three(), odd()
	hot.Needs = list(4, 9)
	// The insects are in the last stage on the first evening, or never: if not then, it stays cold.
	late.Days[1].Warmth = to(0, 0)
	for _, x := range []struct {
		name   string
		b      grow.Brood
		l      []grow.Seen
		days   grow.Range
		surely bool
	}{
		{"warm", warm(), nil, to(2, 2), true},
		{"hot", hot, nil, to(1, 1), true},
		{"on both days, or never", odd(), nil, to(0, 1), false},
		{"not on the first day", odd(), []grow.Seen{seen(0, 0, 0, 0, 100)}, to(1, 1), false},
		{"surely", odd(), []grow.Seen{seen(1, 1, 1, 0, 100)}, to(0, 1), true},
		{"surely on the second day", odd(), []grow.Seen{seen(1, 1, 1, 0, 0)}, to(1, 1), true},
		{"on the first day, or never", late, nil, to(0, 0), false},
	} {
		if d, surely, e := grow.Ripe(x.b, x.l); d != x.days || surely != x.surely || e != api.OK {
			t.Errorf("%s: %v, %v, %v", x.name, d, surely, e)
		}
	}
}

// P2.4, P2.14
func TestSafeByAllTruths(t *testing.T) {
	r, found, none := chance(25), 0, 0
	tries(25, func(b grow.Brood, l []grow.Seen, _, some []path) {
		for _, number := range list(0, 1, r.IntN(101), b.Number.Lo) {
			want, due := 0, api.ErrMiss
			for i := len(b.Days) - 1; i >= 0; i-- {
				if !slices.ContainsFunc(some, func(p path) bool { return p.stages[i] < len(b.Needs) || p.alive[i] < number }) {
					want, due = i, api.OK
				}
			}
			if len(some) == 0 {
				want, due = 0, api.ErrFail
			}
			if d, e := grow.Safe(b, l, number); d != want || e != due {
				t.Fatalf("Safe of %v, %v for %d: %v, %v, not %v, %v", b, l, number, d, e, want, due)
			}
			switch due {
			case api.OK:
				found++
			case api.ErrMiss:
				none++
			}
		}
	})
	if found < 200 || none < 200 {
		t.Errorf("%d days are safe, %d times none is", found, none)
	}
}

func TestSafe(t *testing.T) {
	hot := three()
	hot.Needs = list(4, 9)
	for _, x := range []struct {
		name   string
		b      grow.Brood
		l      []grow.Seen
		number int
		day    int
		e      api.Errno
	}{
		{"just enough", warm(), nil, 32, 2, api.OK},
		{"one more", warm(), nil, 33, 0, api.ErrMiss},
		{"more were seen", warm(), []grow.Seen{seen(0, 0, 2, 40, 100)}, 40, 2, api.OK},
		{"none needed, but not ripe", three(), nil, 0, 0, api.ErrMiss},
		{"it was ripe", three(), []grow.Seen{seen(2, 2, 2, 0, 100)}, 32, 2, api.OK},
		{"the first day of several", hot, nil, 32, 1, api.OK},
		{"what is seen later counts", odd(), []grow.Seen{seen(1, 0, 1, 1, 100)}, 10, 0, api.OK},
	} {
		if d, e := grow.Safe(x.b, x.l, x.number); d != x.day || e != x.e {
			t.Errorf("%s: %v, %v", x.name, d, e)
		}
	}
}

// P2.5
func TestShowByAllTruths(t *testing.T) {
	tries(26, func(b grow.Brood, l []grow.Seen, _, some []path) {
		for i := range b.Days {
			for _, most := range []bool{false, true} {
				y, e := grow.Show(b, l, i, most)
				if len(some) == 0 {
					if e != api.ErrFail || y.Number != 0 || len(y.Warmth) != 0 || len(y.Dead) != 0 {
						t.Fatalf("Show of %v, %v on %d: %v, %v", b, l, i, y, e)
					}
					continue
				}
				alive := bounds(some, func(p path) int { return p.alive[i] })
				want := alive.Lo
				if most {
					want = alive.Hi
				}
				if e != api.OK || !shows(b, l, y, i, want) {
					t.Fatalf("Show of %v, %v on %d, %v: %v, %v, not %d", b, l, i, most, y, e, want)
				}
			}
		}
	})
}

// shows reports whether a truth is one of the brood, agrees with all observations, and has a number on an evening, by the reference.
func shows(b grow.Brood, l []grow.Seen, y grow.Truth, evening, number int) bool {
	if len(y.Warmth) != len(b.Days) || len(y.Dead) != len(b.Days) || !in(b.Number, y.Number) {
		return false
	}
	var p path
	sum, insects := 0, y.Number
	for i, d := range b.Days {
		sum += y.Warmth[i]
		p.stages[i] = stageFor(b, sum)
		if !in(d.Warmth, y.Warmth[i]) || !in(deadOf(d, insects, b.Weak[p.stages[i]]), y.Dead[i]) {
			return false
		}
		insects -= y.Dead[i]
		p.alive[i] = insects
	}
	return agrees(p, l) && p.alive[evening] == number
}

// P2.6, P2.11, P6: any set is tried.
func TestLeaveByAllTruths(t *testing.T) {
	var lengths [5]int
	tries(27, func(b grow.Brood, l []grow.Seen, all, _ []path) {
		var want []int
		for _, set := range sets(len(l)) {
			if len(agreeing(all, without(l, set))) > 0 {
				want = set
				break
			}
		}
		lengths[len(want)]++
		if set, e := grow.Leave(b, l); !slices.Equal(set, want) || e != api.OK {
			t.Fatalf("Leave of %v, %v: %v, %v, not %v", b, l, set, e, want)
		}
	})
	if lengths[0] < 100 || lengths[1] < 100 || lengths[2] < 50 {
		t.Errorf("so many sets of each length: %v", lengths)
	}
}

func TestLeave(t *testing.T) {
	low, high := seen(0, 0, 2, 40, 40), seen(1, 0, 2, 41, 41)
	none := seen(2, 0, 0, 0, 100)
	for _, x := range []struct {
		name string
		l    []grow.Seen
		want []int
	}{
		{"no observations", nil, nil},
		{"they agree", []grow.Seen{low, low}, nil},
		{"the first of two", []grow.Seen{low, high}, list(0)},
		{"the one against two", []grow.Seen{low, high, low}, list(1)},
		{"the last one", []grow.Seen{low, low, high}, list(2)},
		{"one by itself", []grow.Seen{low, none, low}, list(1)},
		{"one by itself, and one of two", []grow.Seen{none, low, high}, list(0, 1)},
		{"the first two of four", []grow.Seen{low, high, low, high}, list(0, 2)},
		{"all", []grow.Seen{none, seen(0, 1, 2, 0, 100), seen(1, 2, 2, 0, 100)}, list(0, 1, 2)},
		{"all of six", []grow.Seen{none, none, none, none, none, none}, list(0, 1, 2, 3, 4, 5)},
	} {
		if set, e := grow.Leave(three(), x.l); !slices.Equal(set, x.want) || e != api.OK {
			t.Errorf("%s: %v, %v", x.name, set, e)
		}
	}
}
