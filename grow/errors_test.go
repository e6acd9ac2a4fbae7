package grow_test

import (
	"math"
	"reflect"
	"testing"

	"nochez/api"
	"nochez/grow"
)

type change struct {
	name string
	make func(b *grow.Brood)
	want api.Errno
}

// changes are changes of the chapter's brood, and the error of the brood after them.
func changes() []change {
	return []change{
		{"none", func(b *grow.Brood) {}, api.OK},
		{"1 need", func(b *grow.Brood) { b.Needs, b.Weak = list(10), list(1, 2) }, api.OK},
		{"4 needs", func(b *grow.Brood) { b.Needs, b.Weak = list(1, 2, 3, 80), list(1, 2, 3, 4, 5) }, api.OK},
		{"5 needs", func(b *grow.Brood) { b.Needs, b.Weak = list(1, 2, 3, 4, 5), list(1, 2, 3, 4, 5, 6) }, api.ErrLimit},
		{"5 wrong needs", func(b *grow.Brood) { b.Needs = make([]int, 5) }, api.ErrLimit},
		{"no needs", func(b *grow.Brood) { b.Needs, b.Weak = nil, list(1) }, api.ErrArg},
		{"8 days", func(b *grow.Brood) { b.Days = make([]grow.Day, 8) }, api.OK},
		{"9 days", func(b *grow.Brood) { b.Days = make([]grow.Day, 9) }, api.ErrLimit},
		{"9 days, a wrong need", func(b *grow.Brood) { b.Days, b.Needs[0] = make([]grow.Day, 9), -1 }, api.ErrLimit},
		{"5 needs, no days", func(b *grow.Brood) { b.Needs, b.Days = make([]int, 5), nil }, api.ErrLimit},
		{"1 day", func(b *grow.Brood) { b.Days = b.Days[:1] }, api.OK},
		{"no days", func(b *grow.Brood) { b.Days = nil }, api.ErrArg},
		{"need 0", func(b *grow.Brood) { b.Needs[0] = 0 }, api.ErrArg},
		{"need 1", func(b *grow.Brood) { b.Needs[0] = 1 }, api.OK},
		{"need -1", func(b *grow.Brood) { b.Needs[0] = -1 }, api.ErrArg},
		{"need 80", func(b *grow.Brood) { b.Needs[1] = 80 }, api.OK},
		{"need 81", func(b *grow.Brood) { b.Needs[1] = 81 }, api.ErrArg},
		{"needs equal", func(b *grow.Brood) { b.Needs[0] = 20 }, api.ErrArg},
		{"needs fall", func(b *grow.Brood) { b.Needs[0] = 21 }, api.ErrArg},
		{"too few weak", func(b *grow.Brood) { b.Weak = b.Weak[:2] }, api.ErrArg},
		{"too many weak", func(b *grow.Brood) { b.Weak = append(b.Weak, 0) }, api.ErrArg},
		{"very many weak", func(b *grow.Brood) { b.Weak = make([]int, 1000) }, api.ErrArg},
		{"no weak", func(b *grow.Brood) { b.Weak = nil }, api.ErrArg},
		{"weak -1", func(b *grow.Brood) { b.Weak[2] = -1 }, api.ErrArg},
		{"weak 0", func(b *grow.Brood) { b.Weak[0] = 0 }, api.OK},
		{"weak 100", func(b *grow.Brood) { b.Weak[2] = 100 }, api.OK},
		{"weak 101", func(b *grow.Brood) { b.Weak[2] = 101 }, api.ErrArg},
		{"number -1", func(b *grow.Brood) { b.Number = to(-1, 5) }, api.ErrArg},
		{"number 0", func(b *grow.Brood) { b.Number = to(0, 0) }, api.OK},
		{"number 100", func(b *grow.Brood) { b.Number = to(100, 100) }, api.OK},
		{"number 101", func(b *grow.Brood) { b.Number = to(0, 101) }, api.ErrArg},
		{"number upside down", func(b *grow.Brood) { b.Number = to(5, 4) }, api.ErrArg},
		{"warmth -1", func(b *grow.Brood) { b.Days[2].Warmth = to(-1, 5) }, api.ErrArg},
		{"warmth 0", func(b *grow.Brood) { b.Days[2].Warmth = to(0, 0) }, api.OK},
		{"warmth 10", func(b *grow.Brood) { b.Days[2].Warmth = to(0, 10) }, api.OK},
		{"warmth 11", func(b *grow.Brood) { b.Days[2].Warmth = to(0, 11) }, api.ErrArg},
		{"warmth upside down", func(b *grow.Brood) { b.Days[0].Warmth = to(6, 5) }, api.ErrArg},
		{"loss -1", func(b *grow.Brood) { b.Days[2].Loss = to(-1, 5) }, api.ErrArg},
		{"loss 1000", func(b *grow.Brood) { b.Days[2].Loss = to(0, 1000) }, api.OK},
		{"loss 1001", func(b *grow.Brood) { b.Days[2].Loss = to(0, 1001) }, api.ErrArg},
		{"loss upside down", func(b *grow.Brood) { b.Days[0].Loss = to(6, 5) }, api.ErrArg},
		{"the greatest numbers", func(b *grow.Brood) {
			b.Needs[1], b.Weak[0], b.Number.Hi, b.Days[0].Loss.Hi = math.MaxInt, math.MaxInt, math.MaxInt, math.MaxInt
		}, api.ErrArg},
		{"the smallest numbers", func(b *grow.Brood) {
			b.Needs[0], b.Weak[0], b.Number.Lo, b.Days[0].Loss.Lo = math.MinInt, math.MinInt, math.MinInt, math.MinInt
		}, api.ErrArg},
		{"nothing", func(b *grow.Brood) { *b = grow.Brood{} }, api.ErrArg},
	}
}

func TestCheckBrood(t *testing.T) {
	for _, x := range changes() {
		b := three()
		x.make(&b)
		if e := grow.CheckBrood(b); e != x.want {
			t.Errorf("%s: CheckBrood of %v: %v", x.name, b, e)
		}
	}
}

// answer has the error of a call, and whether all its other results are zero values.
type answer struct {
	call string
	e    api.Errno
	zero bool
}

func answerOf(call string, e api.Errno, others ...any) answer {
	a := answer{call, e, true}
	for _, x := range others {
		v := reflect.ValueOf(x)
		a.zero = a.zero && (v.IsZero() || v.Kind() == reflect.Slice && v.Len() == 0)
	}
	return a
}

// ask calls everything that has observations.
func ask(b grow.Brood, l []grow.Seen, number, day int) []answer {
	stages, e1 := grow.Stages(b, l)
	alive, e2 := grow.Alive(b, l)
	days, surely, e3 := grow.Ripe(b, l)
	safe, e4 := grow.Safe(b, l, number)
	most, e5 := grow.Show(b, l, day, true)
	least, e6 := grow.Show(b, l, day, false)
	set, e7 := grow.Leave(b, l)
	return []answer{
		answerOf("Stages", e1, stages), answerOf("Alive", e2, alive), answerOf("Ripe", e3, days, surely), answerOf("Safe", e4, safe),
		answerOf("Show, most", e5, most), answerOf("Show", e6, least), answerOf("Leave", e7, set),
	}
}

func playing(b grow.Brood, t grow.Truth) answer {
	stages, alive, can, e := grow.Play(b, t)
	return answerOf("Play", e, stages, alive, can)
}

// fine is a truth of the chapter's brood.
func fine() grow.Truth {
	return grow.Truth{Number: 45, Warmth: list(5, 8, 9), Dead: list(5, 0, 0)}
}

// A wrong brood counts before wrong observations, or a wrong truth, and these before a wrong day or number (R1); with an error all else is zero (R2).
func TestErrorOfTheBrood(t *testing.T) {
	for _, x := range changes() {
		if x.want == api.OK {
			continue
		}
		b := three()
		x.make(&b)
		for _, l := range [][]grow.Seen{nil, {seen(2, 1, 1, 20, 25)}, {seen(9, 9, 9, 999, 999)}, make([]grow.Seen, 7)} {
			for _, a := range ask(b, l, -1, -1) {
				if a.e != x.want || !a.zero {
					t.Errorf("%s, %v: %v", x.name, l, a)
				}
			}
			if grow.ProveTruth(b, l, fine()) {
				t.Errorf("%s, %v: ProveTruth", x.name, l)
			}
		}
		for _, y := range []grow.Truth{{}, fine()} {
			if a := playing(b, y); a.e != x.want || !a.zero {
				t.Errorf("%s, %v: %v", x.name, y, a)
			}
		}
	}
}

func TestErrorOfTheObservations(t *testing.T) {
	good := seen(2, 1, 1, 20, 25)
	six := []grow.Seen{good, good, good, good, good, good}
	for _, x := range []struct {
		l    []grow.Seen
		want api.Errno
	}{
		{append(six, good), api.ErrLimit},
		{make([]grow.Seen, 7), api.ErrLimit},
		{append(six[:6:6], seen(9, 0, 0, 0, 0)), api.ErrLimit},
		{append(six[:5:5], seen(3, 0, 2, 0, 100)), api.ErrRange},
		{[]grow.Seen{seen(3, 0, 2, 0, 100)}, api.ErrRange},
		{[]grow.Seen{seen(-1, 0, 2, 0, 100)}, api.ErrRange},
		{[]grow.Seen{seen(math.MaxInt, 0, 2, 0, 100)}, api.ErrRange},
		{[]grow.Seen{seen(math.MinInt, 0, 2, 0, 100)}, api.ErrRange},
		{[]grow.Seen{seen(2, 0, 3, 0, 100)}, api.ErrRange},
		{[]grow.Seen{seen(2, 3, 3, 0, 100)}, api.ErrRange},
		{[]grow.Seen{seen(2, -1, 2, 0, 100)}, api.ErrRange},
		{[]grow.Seen{seen(2, 2, 1, 0, 100)}, api.ErrRange},
		{[]grow.Seen{seen(2, 0, 2, -1, 100)}, api.ErrRange},
		{[]grow.Seen{seen(2, 0, 2, 0, 101)}, api.ErrRange},
		{[]grow.Seen{seen(2, 0, 2, 101, 101)}, api.ErrRange},
		{[]grow.Seen{seen(2, 0, 2, 50, 49)}, api.ErrRange},
		{[]grow.Seen{seen(2, 0, 2, math.MinInt, math.MaxInt)}, api.ErrRange},
		{[]grow.Seen{good, good, seen(2, 0, 2, 50, 49)}, api.ErrRange},
	} {
		for _, n := range list(1, 101, -1) {
			for _, a := range ask(three(), x.l, n, n) {
				if a.e != x.want || !a.zero {
					t.Errorf("%v, %d: %v", x.l, n, a)
				}
			}
		}
		if grow.ProveTruth(three(), x.l, fine()) {
			t.Errorf("ProveTruth with %v", x.l)
		}
	}
	// At the ends everything is valid.
	for _, l := range [][]grow.Seen{six, {seen(0, 0, 2, 0, 100)}, {seen(2, 2, 2, 0, 100)}, {seen(0, 0, 0, 0, 0), seen(2, 0, 0, 100, 100)}} {
		if _, e := grow.Leave(three(), l); e != api.OK {
			t.Errorf("Leave of %v: %v", l, e)
		}
	}
}

// The error of a day that does not exist, and that of a wrong number, count before that of observations that contradict each other, and this before ErrMiss.
func TestErrorsOfDayAndNumber(t *testing.T) {
	none := []grow.Seen{seen(2, 1, 1, 20, 25)}
	for _, l := range [][]grow.Seen{nil, none} {
		for _, n := range list(-1, 3, 8, math.MinInt, math.MaxInt) {
			for _, most := range []bool{false, true} {
				if y, e := grow.Show(three(), l, n, most); e != api.ErrRange || y.Number != 0 || len(y.Warmth) != 0 || len(y.Dead) != 0 {
					t.Errorf("Show of %v on %d: %v, %v", l, n, y, e)
				}
			}
		}
		for _, n := range list(-1, 101, math.MinInt, math.MaxInt) {
			if d, e := grow.Safe(three(), l, n); e != api.ErrRange || d != 0 {
				t.Errorf("Safe of %v for %d: %v, %v", l, n, d, e)
			}
		}
	}
	for _, n := range list(0, 2) {
		for _, a := range ask(three(), none, n*50, n)[:6] {
			if a.e != api.ErrFail || !a.zero {
				t.Errorf("%d: %v", n, a)
			}
		}
	}
	cold := three()
	cold.Days = cold.Days[:2]
	for _, x := range []struct {
		b grow.Brood
		l []grow.Seen
	}{{cold, nil}, {three(), []grow.Seen{seen(2, 0, 1, 0, 100)}}} {
		if d, surely, e := grow.Ripe(x.b, x.l); d != to(0, 0) || surely || e != api.ErrMiss {
			t.Errorf("Ripe of %v, %v: %v, %v, %v", x.b, x.l, d, surely, e)
		}
		for _, n := range list(0, 100) {
			if d, e := grow.Safe(x.b, x.l, n); d != 0 || e != api.ErrMiss {
				t.Errorf("Safe of %v, %v for %d: %v, %v", x.b, x.l, n, d, e)
			}
		}
	}
}

func TestErrorOfTheTruth(t *testing.T) {
	for _, x := range []struct {
		name string
		make func(y *grow.Truth)
		want api.Errno
	}{
		{"none", func(y *grow.Truth) {}, api.OK},
		{"number 39", func(y *grow.Truth) { y.Number = 39 }, api.ErrRange},
		{"number 40", func(y *grow.Truth) { y.Number = 40 }, api.OK},
		{"number 50", func(y *grow.Truth) { y.Number = 50 }, api.OK},
		{"number 51", func(y *grow.Truth) { y.Number = 51 }, api.ErrRange},
		{"warmth too low", func(y *grow.Truth) { y.Warmth[2] = 4 }, api.ErrRange},
		{"warmth too high", func(y *grow.Truth) { y.Warmth[2] = 10 }, api.ErrRange},
		{"too few warmths", func(y *grow.Truth) { y.Warmth = y.Warmth[:2] }, api.ErrRange},
		{"too many warmths", func(y *grow.Truth) { y.Warmth = append(y.Warmth, 5) }, api.ErrRange},
		{"no warmths", func(y *grow.Truth) { y.Warmth = nil }, api.ErrRange},
		{"too few dead", func(y *grow.Truth) { y.Dead = y.Dead[:2] }, api.ErrRange},
		{"too many dead", func(y *grow.Truth) { y.Dead = append(y.Dead, 0) }, api.ErrRange},
		{"no dead", func(y *grow.Truth) { y.Dead = nil }, api.ErrRange},
		{"dead -1", func(y *grow.Truth) { y.Dead[2] = -1 }, api.ErrRange},
		{"dead 100", func(y *grow.Truth) { y.Dead[2] = 100 }, api.OK},
		{"dead 101", func(y *grow.Truth) { y.Dead[2] = 101 }, api.ErrRange},
		{"the greatest numbers", func(y *grow.Truth) { y.Number, y.Warmth[0], y.Dead[0] = math.MaxInt, math.MaxInt, math.MaxInt }, api.ErrRange},
		{"the smallest dead", func(y *grow.Truth) { y.Dead[0] = math.MinInt }, api.ErrRange},
		{"too few of both", func(y *grow.Truth) { y.Warmth, y.Dead = y.Warmth[:2], y.Dead[:2] }, api.ErrRange},
	} {
		y := fine()
		x.make(&y)
		a := playing(three(), y)
		if a.e != x.want || a.zero != (x.want != api.OK) {
			t.Errorf("%s: %v", x.name, a)
		}
		if x.want != api.OK && grow.ProveTruth(three(), nil, y) {
			t.Errorf("%s: ProveTruth", x.name)
		}
	}
}
