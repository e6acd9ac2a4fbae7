package sweep_test

import (
	"math"
	"reflect"
	"testing"

	"nochez/api"
	"nochez/sweep"
)

type change struct {
	name string
	make func(x *sweep.Terrace)
	want api.Errno
}

// changes are changes of the terrace two with a sample of each part, and the error of the terrace after them.
func changes() []change {
	return []change{
		{"none", func(x *sweep.Terrace) {}, api.OK},
		{"nothing", func(x *sweep.Terrace) { *x = sweep.Terrace{} }, api.ErrArg},
		{"no parts", func(x *sweep.Terrace) { x.Parts, x.Samples = nil, nil }, api.ErrArg},
		{"no parts for the samples", func(x *sweep.Terrace) { x.Parts = nil }, api.ErrArg},
		{"1 part", func(x *sweep.Terrace) { x.Parts, x.Samples = x.Parts[:1], x.Samples[:1] }, api.OK},
		{"1 part for the samples of 2", func(x *sweep.Terrace) { x.Parts = x.Parts[:1] }, api.ErrArg},
		{"4 parts", func(x *sweep.Terrace) { x.Parts = append(x.Parts, x.Parts...) }, api.OK},
		{"5 parts", func(x *sweep.Terrace) { x.Parts = append(append(x.Parts, x.Parts...), part(1, 0, 0, 1)) }, api.ErrLimit},
		{"5 wrong parts", func(x *sweep.Terrace) { x.Parts = make([]sweep.Part, 5) }, api.ErrLimit},
		{"5 parts, a wrong sample", func(x *sweep.Terrace) { x.Parts, x.Samples[0].Plot = make([]sweep.Part, 5), -1 }, api.ErrLimit},
		{"no samples", func(x *sweep.Terrace) { x.Samples = nil }, api.OK},
		{"8 samples", func(x *sweep.Terrace) {
			for len(x.Samples) < 8 {
				x.Samples = append(x.Samples, x.Samples[0])
			}
		}, api.OK},
		{"9 samples", func(x *sweep.Terrace) {
			for len(x.Samples) < 9 {
				x.Samples = append(x.Samples, x.Samples[0])
			}
		}, api.ErrLimit},
		{"9 wrong samples", func(x *sweep.Terrace) { x.Samples = append(make([]sweep.Sample, 8), sample(-1, -1, 2, 1)) }, api.ErrLimit},
		{"9 samples, no parts", func(x *sweep.Terrace) { x.Samples, x.Parts = make([]sweep.Sample, 9), nil }, api.ErrLimit},
		{"9 samples, wrongly weighed", func(x *sweep.Terrace) { x.Samples, x.Weighed = make([]sweep.Sample, 9), to(1, 0) }, api.ErrLimit},
		{"plots -1", func(x *sweep.Terrace) { x.Parts[0].Plots, x.Samples = -1, nil }, api.ErrArg},
		{"plots 0", func(x *sweep.Terrace) { x.Parts[0].Plots, x.Samples = 0, nil }, api.ErrArg},
		{"plots 0 in the second part", func(x *sweep.Terrace) { x.Parts[1].Plots, x.Samples = 0, nil }, api.ErrArg},
		{"plots 6", func(x *sweep.Terrace) { x.Parts[0].Plots = 6 }, api.OK},
		{"plots 7", func(x *sweep.Terrace) { x.Parts[0].Plots = 7 }, api.ErrArg},
		{"the most plots", func(x *sweep.Terrace) { x.Parts[1].Plots = math.MaxInt }, api.ErrArg},
		{"the fewest plots", func(x *sweep.Terrace) { x.Parts[1].Plots = math.MinInt }, api.ErrArg},
		{"each from -1", func(x *sweep.Terrace) { x.Parts[0].Each = to(-1, 9) }, api.ErrArg},
		{"each from 0", func(x *sweep.Terrace) { x.Parts[0].Each = to(0, 9) }, api.OK},
		{"each 0", func(x *sweep.Terrace) { x.Parts[0].Each = to(0, 0) }, api.OK},
		{"each to 1000", func(x *sweep.Terrace) { x.Parts[0].Each = to(4, 1000) }, api.OK},
		{"each 1000", func(x *sweep.Terrace) { x.Parts[1].Each = to(1000, 1000) }, api.OK},
		{"each to 1001", func(x *sweep.Terrace) { x.Parts[1].Each = to(4, 1001) }, api.ErrArg},
		{"each below 0", func(x *sweep.Terrace) { x.Parts[1].Each = to(-2, -1) }, api.ErrArg},
		{"each above 1000", func(x *sweep.Terrace) { x.Parts[1].Each = to(1001, 1001) }, api.ErrArg},
		{"each upside down", func(x *sweep.Terrace) { x.Parts[1].Each = to(6, 5) }, api.ErrArg},
		{"each of all numbers", func(x *sweep.Terrace) { x.Parts[1].Each = to(math.MinInt, math.MaxInt) }, api.ErrArg},
		{"differ -1", func(x *sweep.Terrace) { x.Parts[1].Differ = -1 }, api.ErrArg},
		{"differ 0", func(x *sweep.Terrace) { x.Parts[0].Differ = 0 }, api.ErrArg},
		{"differ 0 with one plot", func(x *sweep.Terrace) { x.Parts[1].Differ = 0 }, api.ErrArg},
		{"differ 1", func(x *sweep.Terrace) { x.Parts[0].Differ = 1 }, api.OK},
		{"differ 1000", func(x *sweep.Terrace) { x.Parts[0].Differ = 1000 }, api.OK},
		{"differ 1001", func(x *sweep.Terrace) { x.Parts[0].Differ = 1001 }, api.ErrArg},
		{"the greatest Differ", func(x *sweep.Terrace) { x.Parts[1].Differ = math.MaxInt }, api.ErrArg},
		{"the smallest Differ", func(x *sweep.Terrace) { x.Parts[1].Differ = math.MinInt }, api.ErrArg},
		{"weighed from -1", func(x *sweep.Terrace) { x.Weighed = to(-1, 50) }, api.ErrArg},
		{"weighed 0", func(x *sweep.Terrace) { x.Weighed = to(0, 0) }, api.OK},
		{"weighed 24000", func(x *sweep.Terrace) { x.Weighed = to(24000, 24000) }, api.OK},
		{"weighed to 24001", func(x *sweep.Terrace) { x.Weighed = to(0, 24001) }, api.ErrArg},
		{"weighed above 24000", func(x *sweep.Terrace) { x.Weighed = to(24001, 24002) }, api.ErrArg},
		{"weighed upside down", func(x *sweep.Terrace) { x.Weighed = to(51, 50) }, api.ErrArg},
		{"weighed all numbers", func(x *sweep.Terrace) { x.Weighed = to(math.MinInt, math.MaxInt) }, api.ErrArg},
		{"sample of part -1", func(x *sweep.Terrace) { x.Samples[1].Part = -1 }, api.ErrArg},
		{"sample of part 2", func(x *sweep.Terrace) { x.Samples[1].Part = 2 }, api.ErrArg},
		{"sample of the last part", func(x *sweep.Terrace) { x.Samples[0].Part = math.MaxInt }, api.ErrArg},
		{"sample of the first part", func(x *sweep.Terrace) { x.Samples[0].Part = math.MinInt }, api.ErrArg},
		{"sample of plot -1", func(x *sweep.Terrace) { x.Samples[0].Plot = -1 }, api.ErrArg},
		{"sample of plot 1", func(x *sweep.Terrace) { x.Samples[0].Plot = 1 }, api.OK},
		{"sample of plot 2", func(x *sweep.Terrace) { x.Samples[0].Plot = 2 }, api.ErrArg},
		{"sample of a plot of another part", func(x *sweep.Terrace) { x.Samples[1].Plot = 1 }, api.ErrArg},
		{"sample of the last plot", func(x *sweep.Terrace) { x.Samples[0].Plot = math.MaxInt }, api.ErrArg},
		{"sample of the first plot", func(x *sweep.Terrace) { x.Samples[0].Plot = math.MinInt }, api.ErrArg},
		{"swept from -1", func(x *sweep.Terrace) { x.Samples[0].Swept = to(-1, 5) }, api.ErrArg},
		{"swept 0", func(x *sweep.Terrace) { x.Samples[0].Swept = to(0, 0) }, api.OK},
		{"swept 1000", func(x *sweep.Terrace) { x.Samples[1].Swept = to(1000, 1000) }, api.OK},
		{"swept to 1001", func(x *sweep.Terrace) { x.Samples[1].Swept = to(5, 1001) }, api.ErrArg},
		{"swept upside down", func(x *sweep.Terrace) { x.Samples[1].Swept = to(26, 25) }, api.ErrArg},
		{"swept all numbers", func(x *sweep.Terrace) { x.Samples[1].Swept = to(math.MinInt, math.MaxInt) }, api.ErrArg},
	}
}

// sampled is the terrace that is changed.
func sampled() sweep.Terrace { return two(sample(0, 0, 5, 8), sample(1, 0, 25, 30)) }

// P5.1
func TestCheckTerrace(t *testing.T) {
	for _, y := range changes() {
		x := sampled()
		y.make(&x)
		if e := sweep.CheckTerrace(x); e != y.want {
			t.Errorf("%s: CheckTerrace of %v: %v", y.name, x, e)
		}
	}
}

// A terrace is valid even if its samples, or what was weighed, contradict each other.
func TestCheckTerraceThatIsNotConsistent(t *testing.T) {
	for _, x := range []sweep.Terrace{three(first(), second(), third()), weighed(three(), 91, 200), three(sample(0, 0, 40, 50)), weighed(three(first()), 0, 54)} {
		if e := sweep.CheckTerrace(x); e != api.OK {
			t.Errorf("CheckTerrace of %v: %v", x, e)
		}
	}
}

// answer has the error of a call, and whether all its other results are zero values.
type answer struct {
	call string
	e    api.Errno
	zero bool
}

func answerOf(call string, e api.Errno, others ...any) answer {
	a := answer{call, e, true}
	for _, x := range others {
		v := reflect.ValueOf(x)
		a.zero = a.zero && (v.IsZero() || v.Kind() == reflect.Slice && v.Len() == 0)
	}
	return a
}

// ask calls all that has an error: first what has only a terrace, Leave last of that, and then what has a plot or an error.
func ask(x sweep.Terrace, part, plot, err int) []answer {
	plots, e1 := sweep.Plots(x)
	whole, e2 := sweep.Whole(x)
	low, e3 := sweep.Show(x, false)
	high, e4 := sweep.Show(x, true)
	set, e5 := sweep.Leave(x)
	number, wide, e6 := sweep.Worst(x, part, plot, err)
	i, k, w, e7 := sweep.Best(x, err)
	return []answer{
		answerOf("Plots", e1, plots), answerOf("Whole", e2, whole), answerOf("Show", e3, low), answerOf("Show, high", e4, high),
		answerOf("Leave", e5, set), answerOf("Worst", e6, number, wide), answerOf("Best", e7, i, k, w),
	}
}

// A wrong terrace counts before a wrong plot, and a wrong error (R1); with an error all else is zero (R2).
func TestErrorOfTheTerrace(t *testing.T) {
	for _, y := range changes() {
		if y.want == api.OK {
			continue
		}
		x := sampled()
		y.make(&x)
		for _, n := range list(0, 1, -1, 7, 101, math.MaxInt, math.MinInt) {
			for _, a := range ask(x, n, n, n) {
				if a.e != y.want || !a.zero {
					t.Errorf("%s, %d: %v", y.name, n, a)
				}
			}
		}
		for _, truth := range [][][]int{nil, lists(list(6, 6), list(27)), lists(nil), lists(nil, nil)} {
			if sweep.ProveTruth(x, truth) {
				t.Errorf("%s: ProveTruth of %v", y.name, truth)
			}
		}
	}
}

// A plot that does not exist, and a wrong error, count before what is not consistent.
func TestErrorsOfPlotAndError(t *testing.T) {
	for _, x := range []sweep.Terrace{sampled(), weighed(sampled(), 0, 0), with(sampled(), sample(0, 0, 4, 4))} {
		_, fail := sweep.Whole(x)
		for _, y := range []struct {
			part, plot int
			can        bool
		}{
			{0, 0, true}, {0, 1, true}, {1, 0, true}, {0, 2, false}, {1, 1, false}, {2, 0, false}, {-1, 0, false}, {0, -1, false}, {1, -1, false}, {4, 0, false},
			{math.MaxInt, 0, false}, {math.MinInt, 0, false}, {0, math.MaxInt, false}, {0, math.MinInt, false},
		} {
			for err, can := range map[int]bool{0: true, 1: true, 100: true, 101: false, -1: false, math.MaxInt: false, math.MinInt: false} {
				worst, best := fail, fail
				if !can {
					best = api.ErrRange
				}
				if !can || !y.can {
					worst = api.ErrRange
				}
				all := ask(x, y.part, y.plot, err)
				if a := all[5]; a.e != worst || a.zero != (worst != api.OK) {
					t.Errorf("%v, %d, %d, %d: %v, not %v", x, y.part, y.plot, err, a, worst)
				}
				if a := all[6]; a.e != best || best != api.OK && !a.zero {
					t.Errorf("%v, %d: %v, not %v", x, err, a, best)
				}
			}
		}
	}
}

// What is not consistent has no bounds; Leave has an error only if no samples are needed for that.
func TestErrorOfWhatIsNotConsistent(t *testing.T) {
	for _, y := range []struct {
		name  string
		x     sweep.Terrace
		leave api.Errno
	}{
		{"too little was weighed", weighed(three(), 0, 29), api.ErrFail},
		{"too much was weighed", weighed(three(), 91, 24000), api.ErrFail},
		{"too much was weighed, a sample", weighed(three(first()), 91, 24000), api.ErrFail},
		{"too little was weighed for the sample", weighed(three(first()), 30, 54), api.OK},
		{"too much was weighed for the sample", weighed(three(first()), 89, 90), api.OK},
		{"a sample that is not in Each", three(sample(0, 0, 31, 31)), api.OK},
		{"a sample below Each", three(sample(0, 2, 0, 9)), api.OK},
		{"two samples of a plot", three(sample(0, 0, 15, 17), sample(0, 0, 18, 20)), api.OK},
		{"plots that differ too much", three(sample(0, 0, 10, 14), sample(0, 2, 25, 30)), api.OK},
	} {
		for i, a := range ask(y.x, 0, 0, 0) {
			want := api.ErrFail
			if i == 4 {
				want = y.leave
			}
			if a.e != want || a.zero != (want != api.OK) {
				t.Errorf("%s: %v", y.name, a)
			}
		}
		for n := 10; n <= 30; n++ {
			if sweep.ProveTruth(y.x, lists(list(n, n, n))) {
				t.Errorf("%s: ProveTruth of %d", y.name, n)
			}
		}
	}
}

// At the ends the terrace is still consistent.
func TestJustConsistent(t *testing.T) {
	for _, x := range []sweep.Terrace{
		weighed(three(), 0, 30), weighed(three(), 90, 24000), weighed(three(first()), 0, 55), weighed(three(first()), 88, 90),
		three(sample(0, 0, 30, 31)), three(sample(0, 2, 0, 10)), three(sample(0, 0, 15, 18), sample(0, 0, 18, 20)), three(sample(0, 0, 10, 15), sample(0, 2, 25, 30)),
	} {
		for _, a := range ask(x, 0, 0, 0) {
			if a.e != api.OK {
				t.Errorf("%v: %v", x, a)
			}
		}
	}
}
