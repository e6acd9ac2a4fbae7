package prey_test

import (
	"math"
	"reflect"
	"testing"

	"nochez/api"
	"nochez/nest"
	"nochez/prey"
)

type change struct {
	name string
	make func(f *prey.Field)
	want api.Errno
}

// changes are changes of the chapter's field, and the error of the field after them.
func changes() []change {
	return []change{
		{"none", func(f *prey.Field) {}, api.OK},
		{"8 pads", func(f *prey.Field) { *f = row(8) }, api.OK},
		{"9 pads", func(f *prey.Field) { *f = row(9) }, api.ErrLimit},
		{"9 pads, but 5 eats", func(f *prey.Field) { f.Grove.Pads = make([]nest.Pad, 9) }, api.ErrLimit},
		{"16 joins", func(f *prey.Field) { *f = full() }, api.OK},
		{"17 joins", func(f *prey.Field) {
			*f = full()
			f.Grove.Joins = append(f.Grove.Joins, nest.Join{A: 0, B: 7})
		}, api.ErrLimit},
		{"4 kinds", func(f *prey.Field) { f.Grove.Kinds = make([]nest.Kind, 4) }, api.ErrLimit},
		{"4 kinds, a wrong start", func(f *prey.Field) { f.Grove.Kinds, f.Start = make([]nest.Kind, 4), list(5) }, api.ErrLimit},
		{"no pads", func(f *prey.Field) { f.Grove.Pads = nil }, api.ErrArg},
		{"nothing", func(f *prey.Field) { *f = prey.Field{} }, api.ErrArg},
		{"no kinds", func(f *prey.Field) { f.Grove.Kinds = nil }, api.ErrArg},
		{"a wrong kind", func(f *prey.Field) { f.Grove.Kinds[0].Young = -1 }, api.ErrArg},
		{"a wrong pad", func(f *prey.Field) { f.Grove.Pads[4].Need = 1 }, api.ErrArg},
		{"a wrong join", func(f *prey.Field) { f.Grove.Joins[3].B = 5 }, api.ErrArg},
		{"a join twice", func(f *prey.Field) { f.Grove.Joins[3] = nest.Join{A: 1, B: 0} }, api.ErrArg},
		{"no joins", func(f *prey.Field) { f.Grove.Joins = nil }, api.OK},
		{"no start", func(f *prey.Field) { f.Start = nil }, api.OK},
		{"one start", func(f *prey.Field) { f.Start = list(4) }, api.OK},
		{"start -1", func(f *prey.Field) { f.Start = list(-1, 0) }, api.ErrArg},
		{"start 5", func(f *prey.Field) { f.Start = list(0, 5) }, api.ErrArg},
		{"start falls", func(f *prey.Field) { f.Start = list(0, 3, 2) }, api.ErrArg},
		{"start twice", func(f *prey.Field) { f.Start = list(0, 3, 3) }, api.ErrArg},
		{"start the greatest", func(f *prey.Field) { f.Start = list(math.MaxInt) }, api.ErrArg},
		{"start the smallest", func(f *prey.Field) { f.Start = list(math.MinInt) }, api.ErrArg},
		{"too few eats", func(f *prey.Field) { f.Eats = f.Eats[:4] }, api.ErrArg},
		{"too many eats", func(f *prey.Field) { f.Eats = append(f.Eats, 0) }, api.ErrArg},
		{"no eats", func(f *prey.Field) { f.Eats = nil }, api.ErrArg},
		{"eats 0", func(f *prey.Field) { f.Eats[4] = 0 }, api.OK},
		{"eats -1", func(f *prey.Field) { f.Eats[4] = -1 }, api.ErrArg},
		{"eats 100", func(f *prey.Field) { f.Eats[4] = 100 }, api.OK},
		{"eats 101", func(f *prey.Field) { f.Eats[4] = 101 }, api.ErrArg},
		{"first eats 101", func(f *prey.Field) { f.Eats[0] = 101 }, api.ErrArg},
		{"eats the greatest", func(f *prey.Field) { f.Eats[2] = math.MaxInt }, api.ErrArg},
		{"eats the smallest", func(f *prey.Field) { f.Eats[2] = math.MinInt }, api.ErrArg},
	}
}

// full has as many pads and joins as there may be.
func full() prey.Field {
	f := row(8)
	for p := range 6 {
		f.Grove.Joins = append(f.Grove.Joins, nest.Join{A: p + 2, B: p})
	}
	for p := range 3 {
		f.Grove.Joins = append(f.Grove.Joins, nest.Join{A: p, B: p + 3})
	}
	return f
}

// P3.1
func TestCheckField(t *testing.T) {
	for _, x := range changes() {
		f := row(5)
		x.make(&f)
		if e := prey.CheckField(f); e != x.want {
			t.Errorf("%s: CheckField of %v: %v", x.name, f, e)
		}
	}
}

// answer has the error of a call, and whether all its other results are zero values.
type answer struct {
	call string
	e    api.Errno
	zero bool
}

func answerOf(call string, e api.Errno, others ...any) answer {
	a := answer{call, e, true}
	for _, x := range others {
		v := reflect.ValueOf(x)
		a.zero = a.zero && (v.IsZero() || v.Kind() == reflect.Slice && v.Len() == 0)
	}
	return a
}

// askPlan calls what has a plan and an error.
func askPlan(f prey.Field, p [][]int) []answer {
	may, e1 := prey.May(f, p)
	loss, path, e2 := prey.Loss(f, p)
	return []answer{answerOf("May", e1, may), answerOf("Loss", e2, loss, path)}
}

// ask calls everything else that has an error.
func ask(f prey.Field, hands, weeks int) []answer {
	shortest, e1 := prey.Clear(f, hands)
	fewest, e2 := prey.Hands(f)
	best, loss, e3 := prey.Best(f, hands, weeks)
	return []answer{answerOf("Clear", e1, shortest), answerOf("Hands", e2, fewest), answerOf("Best", e3, best, loss)}
}

// A wrong field counts before a wrong plan, and before wrong numbers (R1); with an error all else is zero (R2).
func TestErrorOfTheField(t *testing.T) {
	for _, x := range changes() {
		if x.want == api.OK {
			continue
		}
		f := row(5)
		x.make(&f)
		for _, p := range [][][]int{nil, plan(nil), four(), plan(list(5)), plan(list(-1)), make([][]int, 301)} {
			for _, a := range askPlan(f, p) {
				if a.e != x.want || !a.zero {
					t.Errorf("%s, %v: %v", x.name, p, a)
				}
			}
			if prey.ProvePath(f, p, list(0), 0) || prey.ProvePath(f, p, nil, 0) || prey.ProveClear(f, p, 8) {
				t.Errorf("%s, %v: a proof", x.name, p)
			}
		}
		for _, n := range list(-1, 0, 2, 9, math.MaxInt, math.MinInt) {
			for _, a := range ask(f, n, n) {
				if a.e != x.want || !a.zero {
					t.Errorf("%s, %d: %v", x.name, n, a)
				}
			}
		}
	}
}

// A wrong plan counts before the error of an empty start.
func TestErrorOfThePlan(t *testing.T) {
	long := make([][]int, 301)
	for _, x := range []struct {
		name string
		p    [][]int
		want api.Errno
	}{
		{"301 weeks", long, api.ErrLimit},
		{"301 weeks, a wrong one", append(make([][]int, 300), list(5)), api.ErrLimit},
		{"very many weeks", make([][]int, 100000), api.ErrLimit},
		{"300 weeks, a wrong one", append(make([][]int, 299), list(5)), api.ErrRange},
		{"pad 5", plan(list(0, 1), list(4, 5)), api.ErrRange},
		{"pad -1", plan(list(0, 1), list(-1, 0)), api.ErrRange},
		{"a pad twice", plan(list(0, 1), list(1, 1)), api.ErrRange},
		{"falling", plan(list(1, 0), list(1, 2)), api.ErrRange},
		{"falling at its end", plan(list(1, 2), list(0, 3, 2)), api.ErrRange},
		{"all pads, and more", plan(list(0, 1, 2, 3, 4, 5)), api.ErrRange},
		{"very many pads", plan(make([]int, 1000)), api.ErrRange},
		{"the greatest pad", plan(list(math.MaxInt)), api.ErrRange},
		{"the smallest pad", plan(list(math.MinInt, 0)), api.ErrRange},
		{"pad 64", plan(list(64)), api.ErrRange},
	} {
		for _, f := range []prey.Field{row(5), on(row(5))} {
			for _, a := range askPlan(f, x.p) {
				if a.e != x.want || !a.zero {
					t.Errorf("%s: %v", x.name, a)
				}
			}
			if prey.ProvePath(f, x.p, list(0), 0) || prey.ProvePath(f, x.p, nil, 0) || prey.ProveClear(f, x.p, 8) {
				t.Errorf("%s: a proof", x.name)
			}
		}
	}
	// At the ends everything is valid.
	for _, p := range [][][]int{nil, {}, {nil}, {{}}, {{0, 1, 2, 3, 4}}, {{4}, {0}}, long[:300]} {
		for _, a := range askPlan(row(5), p) {
			if a.e != api.OK {
				t.Errorf("%d weeks: %v", len(p), a)
			}
		}
	}
}

// Only Loss and Best have an error if the moths are nowhere; it counts after all others.
func TestErrorOfTheStart(t *testing.T) {
	for _, p := range [][][]int{nil, plan(nil), four()} {
		if n, path, e := prey.Loss(on(row(5)), p); n != 0 || len(path) != 0 || e != api.ErrNone {
			t.Errorf("Loss of %v: %d, %v, %v", p, n, path, e)
		}
		if l, e := prey.May(on(row(5)), p); len(l) != len(p)+1 || e != api.OK {
			t.Errorf("May of %v: %v, %v", p, l, e)
		}
	}
	for hands := range 3 {
		for weeks := range 4 {
			if l, n, e := prey.Best(on(row(5)), hands, weeks); len(l) != 0 || n != 0 || e != api.ErrNone {
				t.Errorf("Best with %d, %d: %v, %d, %v", hands, weeks, l, n, e)
			}
		}
		if l, e := prey.Clear(on(row(5)), hands); len(l) != 0 || e != api.OK {
			t.Errorf("Clear with %d: %v, %v", hands, l, e)
		}
	}
}

func TestErrorsOfHandsAndWeeks(t *testing.T) {
	for _, f := range []prey.Field{row(5), on(row(5)), row(1)} {
		for _, hands := range list(-1, 9, math.MaxInt, math.MinInt) {
			if l, e := prey.Clear(f, hands); len(l) != 0 || e != api.ErrRange {
				t.Errorf("Clear with %d: %v, %v", hands, l, e)
			}
		}
		for _, x := range [][]int{{-1, 2}, {3, 2}, {8, 2}, {2, -1}, {2, 4}, {0, 4}, {-1, -1}, {math.MaxInt, 0}, {0, math.MaxInt}, {math.MinInt, math.MinInt}} {
			if l, n, e := prey.Best(f, x[0], x[1]); len(l) != 0 || n != 0 || e != api.ErrRange {
				t.Errorf("Best with %d, %d: %v, %d, %v", x[0], x[1], l, n, e)
			}
		}
	}
	// At the ends everything is valid, even if there are fewer pads than hands.
	for hands := range 9 {
		want := api.OK
		if hands == 0 {
			want = api.ErrMiss
		}
		if l, e := prey.Clear(row(1), hands); e != want || len(l) != min(hands, 1) {
			t.Errorf("Clear with %d: %v, %v", hands, l, e)
		}
	}
	for _, x := range []struct{ hands, weeks, loss int }{{0, 0, 0}, {0, 3, 3}, {2, 0, 0}, {2, 3, 1}} {
		if l, n, e := prey.Best(row(1), x.hands, x.weeks); len(l) != x.weeks || n != x.loss || e != api.OK {
			t.Errorf("Best with %d, %d: %v, %d, %v", x.hands, x.weeks, l, n, e)
		}
	}
}

func TestErrorOfClear(t *testing.T) {
	for _, x := range []struct {
		f     prey.Field
		hands int
	}{{row(5), 1}, {row(5), 0}, {on(row(5), 0), 1}, {row(1), 0}, {ring(5), 2}, {full(), 3}} {
		if l, e := prey.Clear(x.f, x.hands); len(l) != 0 || e != api.ErrMiss {
			t.Errorf("Clear of %v with %d: %v, %v", x.f, x.hands, l, e)
		}
	}
}
