package dye_test

import (
	"math"
	"slices"
	"testing"

	"nochez/api"
	"nochez/dye"
)

type change struct {
	name string
	make func(w *dye.Works)
	want api.Errno
}

// changesOfLots are changes of the lots of the examples, and the error of the works after them.
func changesOfLots() []change {
	return []change{
		{"none", func(w *dye.Works) {}, api.OK},
		{"nothing", func(w *dye.Works) { *w = dye.Works{} }, api.ErrArg},
		{"no lots for the readings", func(w *dye.Works) { w.Lots = nil }, api.ErrArg},
		{"1 lot, no readings", func(w *dye.Works) { *w = works(full(1)) }, api.OK},
		{"2 lots for the readings of 3", func(w *dye.Works) { w.Lots = w.Lots[:2] }, api.ErrArg},
		{"6 lots", func(w *dye.Works) { w.Lots = full(6) }, api.OK},
		{"7 lots", func(w *dye.Works) { w.Lots = full(7) }, api.ErrLimit},
		{"7 wrong lots", func(w *dye.Works) { w.Lots = slices.Repeat(row(to(1, 0)), 7) }, api.ErrLimit},
		{"7 lots, a wrong reading", func(w *dye.Works) { w.Lots, w.Readings[0].Kind = full(7), 0 }, api.ErrLimit},
		{"7 lots, no readings", func(w *dye.Works) { *w = works(full(7)) }, api.ErrLimit},
		{"from -1", func(w *dye.Works) { w.Lots[0] = to(-1, 100) }, api.ErrArg},
		{"to 101", func(w *dye.Works) { w.Lots[0] = to(0, 101) }, api.ErrArg},
		{"upside down", func(w *dye.Works) { w.Lots[0] = to(51, 50) }, api.ErrArg},
		{"one strength", func(w *dye.Works) { w.Lots[0] = to(50, 50) }, api.OK},
		{"the strength 0", func(w *dye.Works) { w.Lots[0] = to(0, 0) }, api.OK},
		{"the strength 100", func(w *dye.Works) { w.Lots[0] = to(100, 100) }, api.OK},
		{"below 0", func(w *dye.Works) { w.Lots[1] = to(-2, -1) }, api.ErrArg},
		{"above 100", func(w *dye.Works) { w.Lots[1] = to(101, 102) }, api.ErrArg},
		{"the last one from -1", func(w *dye.Works) { w.Lots[2] = to(-1, 0) }, api.ErrArg},
		{"the last one to 101", func(w *dye.Works) { w.Lots[2] = to(100, 101) }, api.ErrArg},
		{"the last one upside down", func(w *dye.Works) { w.Lots[2] = to(100, 0) }, api.ErrArg},
		{"all numbers", func(w *dye.Works) { w.Lots[1] = to(math.MinInt, math.MaxInt) }, api.ErrArg},
		{"all numbers, upside down", func(w *dye.Works) { w.Lots[1] = to(math.MaxInt, math.MinInt) }, api.ErrArg},
		{"a wrong lot, no readings", func(w *dye.Works) { *w = works(row(to(0, 101))) }, api.ErrArg},
	}
}

// changesOfReadings are changes of the readings of the examples.
func changesOfReadings() []change {
	return []change{
		{"no readings", func(w *dye.Works) { w.Readings = nil }, api.OK},
		{"8 readings", func(w *dye.Works) { w.Readings = slices.Repeat(w.Readings[1:], 4) }, api.OK},
		{"9 readings", func(w *dye.Works) { w.Readings = slices.Repeat(w.Readings, 3) }, api.ErrLimit},
		{"9 wrong readings", func(w *dye.Works) { w.Readings = make([]dye.Reading, 9) }, api.ErrLimit},
		{"9 readings, no lots", func(w *dye.Works) { *w = works(nil, make([]dye.Reading, 9)...) }, api.ErrLimit},
		{"9 readings, a wrong lot", func(w *dye.Works) { w.Lots[0], w.Readings = to(1, 0), slices.Repeat(w.Readings, 3) }, api.ErrLimit},
		{"8 wrong readings", func(w *dye.Works) { w.Readings = make([]dye.Reading, 8) }, api.ErrArg},
		{"the Kind 0", func(w *dye.Works) { w.Readings[0].Kind = 0 }, api.ErrArg},
		{"the Kind 0 of a comparison", func(w *dye.Works) { w.Readings[1].Kind = 0 }, api.ErrArg},
		{"the Kind 3", func(w *dye.Works) { w.Readings[0].Kind = 3 }, api.ErrArg},
		{"the Kind 3 of a comparison", func(w *dye.Works) { w.Readings[1].Kind = 3 }, api.ErrArg},
		{"the Kind 255", func(w *dye.Works) { w.Readings[2].Kind = 255 }, api.ErrArg},
		{"a comparison of a lot with itself", func(w *dye.Works) { w.Readings[0].Kind = dye.Compare }, api.ErrArg},
		{"a comparison instead of a scale", func(w *dye.Works) { w.Readings[0].Kind, w.Readings[0].Other = dye.Compare, 2 }, api.OK},
		{"a scale instead of a comparison", func(w *dye.Works) { w.Readings[1].Kind = dye.Scale }, api.OK},
		{"a scale instead of a comparison with another lot", func(w *dye.Works) { w.Readings[2].Kind, w.Readings[2].Value = dye.Scale, 50 }, api.ErrArg},
		{"the Lot -1", func(w *dye.Works) { w.Readings[0].Lot = -1 }, api.ErrArg},
		{"the Lot 2", func(w *dye.Works) { w.Readings[0].Lot = 2 }, api.OK},
		{"the Lot 3", func(w *dye.Works) { w.Readings[0].Lot = 3 }, api.ErrArg},
		{"the Lot 3 of the last one", func(w *dye.Works) { w.Readings[2].Lot = 3 }, api.ErrArg},
		{"the Lot -1 of a comparison", func(w *dye.Works) { w.Readings[1].Lot = -1 }, api.ErrArg},
		{"the Lot 6", func(w *dye.Works) { w.Readings[0].Lot = 6 }, api.ErrArg},
		{"the greatest Lot", func(w *dye.Works) { w.Readings[1].Lot = math.MaxInt }, api.ErrArg},
		{"the smallest Lot", func(w *dye.Works) { w.Readings[0].Lot = math.MinInt }, api.ErrArg},
		{"a scale with an Other", func(w *dye.Works) { w.Readings[0].Other = 1 }, api.ErrArg},
		{"a scale with the Other -1", func(w *dye.Works) { w.Readings[0].Other = -1 }, api.ErrArg},
		{"a scale of lot 1 with itself as Other", func(w *dye.Works) { w.Readings[0].Lot, w.Readings[0].Other = 1, 1 }, api.ErrArg},
		{"the Other -1", func(w *dye.Works) { w.Readings[1].Other = -1 }, api.ErrArg},
		{"the Other 2", func(w *dye.Works) { w.Readings[1].Other = 2 }, api.OK},
		{"the Other 3", func(w *dye.Works) { w.Readings[1].Other = 3 }, api.ErrArg},
		{"the Other 6", func(w *dye.Works) { w.Readings[1].Other = 6 }, api.ErrArg},
		{"the Other is the Lot", func(w *dye.Works) { w.Readings[1].Other = 1 }, api.ErrArg},
		{"the Other of the last one is the Lot", func(w *dye.Works) { w.Readings[2].Other = 2 }, api.ErrArg},
		{"the greatest Other", func(w *dye.Works) { w.Readings[2].Other = math.MaxInt }, api.ErrArg},
		{"the smallest Other", func(w *dye.Works) { w.Readings[2].Other = math.MinInt }, api.ErrArg},
		{"the Value -1 of a scale", func(w *dye.Works) { w.Readings[0].Value = -1 }, api.ErrArg},
		{"the Value 0 of a scale", func(w *dye.Works) { w.Readings[0].Value = 0 }, api.OK},
		{"the Value 100 of a scale", func(w *dye.Works) { w.Readings[0].Value = 100 }, api.OK},
		{"the Value 101 of a scale", func(w *dye.Works) { w.Readings[0].Value = 101 }, api.ErrArg},
		{"the Value -101 of a comparison", func(w *dye.Works) { w.Readings[1].Value = -101 }, api.ErrArg},
		{"the Value -100 of a comparison", func(w *dye.Works) { w.Readings[1].Value = -100 }, api.OK},
		{"the Value 100 of a comparison", func(w *dye.Works) { w.Readings[1].Value = 100 }, api.OK},
		{"the Value 101 of a comparison", func(w *dye.Works) { w.Readings[1].Value = 101 }, api.ErrArg},
		{"the Value 101 of the last one", func(w *dye.Works) { w.Readings[2].Value = 101 }, api.ErrArg},
		{"the greatest Value", func(w *dye.Works) { w.Readings[0].Value = math.MaxInt }, api.ErrArg},
		{"the smallest Value", func(w *dye.Works) { w.Readings[1].Value = math.MinInt }, api.ErrArg},
		{"the Error -1", func(w *dye.Works) { w.Readings[0].Error = -1 }, api.ErrArg},
		{"the Error 0", func(w *dye.Works) { w.Readings[0].Error = 0 }, api.OK},
		{"the Error 100", func(w *dye.Works) { w.Readings[0].Error = 100 }, api.OK},
		{"the Error 101", func(w *dye.Works) { w.Readings[0].Error = 101 }, api.ErrArg},
		{"the Error -1 of a comparison", func(w *dye.Works) { w.Readings[1].Error = -1 }, api.ErrArg},
		{"the Error 100 of a comparison", func(w *dye.Works) { w.Readings[1].Error = 100 }, api.OK},
		{"the Error 101 of the last one", func(w *dye.Works) { w.Readings[2].Error = 101 }, api.ErrArg},
		{"the greatest Error", func(w *dye.Works) { w.Readings[1].Error = math.MaxInt }, api.ErrArg},
		{"the smallest Error", func(w *dye.Works) { w.Readings[0].Error = math.MinInt }, api.ErrArg},
	}
}

func changes() []change { return slices.Concat(changesOfLots(), changesOfReadings()) }

// P8.1
func TestCheckWorks(t *testing.T) {
	for _, y := range changes() {
		w := three()
		y.make(&w)
		if e := dye.CheckWorks(w); e != y.want {
			t.Errorf("%s: CheckWorks of %v: %v", y.name, w, e)
		}
	}
}

// broken has works that are valid, but have no truth; none of them is without readings.
func broken() []dye.Works {
	return []dye.Works{
		three(scale(2, 60, 2)), three(scale(2, 56, 2)), three(scale(0, 61, 0)), three(compare(0, 1, -9, 0)), three(scale(2, 10, 9)),
		works(row(to(10, 20)), scale(0, 5, 4)), works(row(to(10, 20)), scale(0, 25, 4)), works(row(to(0, 10), to(20, 30)), compare(0, 1, 4, 13)),
		works(full(2), compare(0, 1, 1, 0), compare(1, 0, 0, 0)), works(full(3), compare(0, 1, 1, 0), compare(1, 2, 1, 0), compare(2, 0, 1, 2)),
		works(full(6), compare(1, 0, 20, 0), compare(2, 1, 20, 0), compare(3, 2, 20, 0), compare(4, 3, 20, 0), compare(5, 4, 21, 0)),
	}
}

// Works are valid even if their readings contradict each other.
func TestCheckWorksWithoutTruth(t *testing.T) {
	for _, w := range broken() {
		if e := dye.CheckWorks(w); e != api.OK {
			t.Errorf("CheckWorks of %v: %v", w, e)
		}
	}
}

// answer has the error of a call, and whether all its other results are zero values.
type answer struct {
	call string
	e    api.Errno
	zero bool
}

// asked is what works are asked for.
type asked struct{ lot, other, err int }

// The calls of ask, by their indexes.
const (
	callCheck = iota
	callStrengths
	callDifference
	callRanks
	callLow
	callHigh
	callProveLow
	callProveHigh
	callLeave
	callHelp
)

func isZero(c dye.Chain) bool { return c.From == 0 && c.First == 0 && len(c.Links) == 0 }

// ask calls all that has an error.
func ask(w dye.Works, y asked) []answer {
	s, e1 := dye.Strengths(w)
	d, e2 := dye.Difference(w, y.lot, y.other)
	r, e3 := dye.Ranks(w)
	low, e4 := dye.Show(w, y.lot, false)
	high, e5 := dye.Show(w, y.lot, true)
	least, e6 := dye.Prove(w, y.lot, false)
	most, e7 := dye.Prove(w, y.lot, true)
	set, e8 := dye.Leave(w)
	lot, width, e9 := dye.Help(w, y.err)
	return []answer{
		{"CheckWorks", dye.CheckWorks(w), true}, {"Strengths", e1, len(s) == 0}, {"Difference", e2, d == to(0, 0)}, {"Ranks", e3, len(r) == 0},
		{"Show", e4, len(low) == 0}, {"Show, high", e5, len(high) == 0}, {"Prove", e6, isZero(least)}, {"Prove, high", e7, isZero(most)},
		{"Leave", e8, len(set) == 0}, {"Help", e9, lot == 0 && width == 0},
	}
}

// Wrong works count before a wrong lot, and a wrong error (R1); with an error all else is zero (R2).
func TestErrorOfTheWorks(t *testing.T) {
	for _, y := range changes() {
		if y.want == api.OK {
			continue
		}
		w := three()
		y.make(&w)
		for _, z := range []asked{{0, 1, 2}, {-1, 0, -1}, {0, -1, 101}, {7, 3, math.MaxInt}, {math.MaxInt, math.MinInt, math.MinInt}} {
			for _, a := range ask(w, z) {
				if a.e != y.want || !a.zero {
					t.Errorf("%s, %v: %v", y.name, z, a)
				}
			}
		}
		for _, s := range lists(nil, list(50, 65, 35), list(50, 65), list(50), list(0, 0, 0), list(-1, 0, 0), list(50, 65, 35, 0, 0, 0, 0)) {
			if dye.ProveTruth(w, s) {
				t.Errorf("%s: ProveTruth of %v", y.name, s)
			}
		}
		for _, c := range []dye.Chain{chain(0, 0), chain(0, -1), chain(0, 0, 1), chain(6, -1), {}} {
			for lot := range 7 {
				if dye.ProveChain(w, lot, true, math.MaxInt, c) || dye.ProveChain(w, lot, false, math.MinInt, c) {
					t.Errorf("%s: ProveChain of %v for %d", y.name, c, lot)
				}
			}
		}
	}
}

// wrongLots and wrongErrors have what does not belong to the works of the examples.
func wrongLots() []int { return list(-1, 3, 4, 5, 6, 7, math.MaxInt, math.MinInt) }

func wrongErrors() []int { return list(-1, -2, 101, 102, math.MaxInt, math.MinInt) }

// refuses checks that some calls return ErrRange, and nothing else.
func refuses(t *testing.T, w dye.Works, y asked, calls ...int) {
	t.Helper()
	all := ask(w, y)
	for _, i := range calls {
		if a := all[i]; a.e != api.ErrRange || !a.zero {
			t.Errorf("%v, %v: %v", w, y, a)
		}
	}
}

// A lot and an error that do not belong to the works count before readings that contradict each other.
func TestErrorsOfLotAndError(t *testing.T) {
	for _, w := range []dye.Works{three(), three(scale(2, 60, 2)), works(full(3)), works(full(3), compare(0, 1, 1, 0), compare(1, 0, 0, 0))} {
		for _, lot := range wrongLots() {
			refuses(t, w, asked{lot, 0, 2}, callDifference, callLow, callHigh, callProveLow, callProveHigh)
			refuses(t, w, asked{0, lot, 2}, callDifference)
			refuses(t, w, asked{lot, lot, 2}, callDifference)
		}
		for _, err := range wrongErrors() {
			refuses(t, w, asked{0, 1, err}, callHelp)
		}
	}
	refuses(t, works(full(1)), asked{1, 0, 2}, callDifference, callLow, callHigh, callProveLow, callProveHigh)
}

// What is just allowed has no error.
func TestLotsAndErrorsThatBelong(t *testing.T) {
	for lot := range 3 {
		for other := range 3 {
			for _, err := range list(0, 1, 99, 100) {
				for _, a := range ask(three(), asked{lot, other, err}) {
					if a.e != api.OK {
						t.Errorf("%d, %d, %d: %v", lot, other, err, a)
					}
				}
			}
		}
	}
}

// Works with as many readings as there may be have no error of their own: a further reading is not counted.
func TestHelpWithAllReadings(t *testing.T) {
	w := works(full(2), slices.Repeat([]dye.Reading{scale(0, 50, 20)}, 8)...)
	helps(t, w, 0, 1, 40)
	helps(t, w, 10, 1, 60)
}

// If there is no truth, there is nothing but a smallest set.
func TestErrorOfWorksWithoutTruth(t *testing.T) {
	for _, w := range broken() {
		for i, a := range ask(w, asked{0, len(w.Lots) - 1, 2}) {
			want, zero := api.ErrFail, true
			if i == callCheck || i == callLeave {
				want, zero = api.OK, i == callCheck
			}
			if a.e != want || a.zero != zero {
				t.Errorf("%v: %v", w, a)
			}
		}
		if len(w.Lots) > 3 {
			continue
		}
		if all := truths(w); len(all) > 0 {
			t.Errorf("%v has the truth %v", w, all[0])
		}
	}
}

// At the ends there still is a truth.
func TestJustATruth(t *testing.T) {
	for _, w := range []dye.Works{
		three(scale(2, 55, 2)), three(scale(0, 60, 0)), three(scale(0, 70, 10)), three(compare(0, 1, -10, 0)), three(scale(2, 10, 10)),
		works(row(to(10, 20)), scale(0, 5, 5)), works(row(to(10, 20)), scale(0, 25, 5)), works(row(to(0, 10), to(20, 30)), compare(0, 1, 4, 14)),
		works(full(2), compare(0, 1, 1, 0), compare(1, 0, 0, 1)), works(full(3), compare(0, 1, 1, 0), compare(1, 2, 1, 0), compare(2, 0, 1, 3)),
		works(full(6), compare(1, 0, 20, 0), compare(2, 1, 20, 0), compare(3, 2, 20, 0), compare(4, 3, 20, 0), compare(5, 4, 21, 1)),
	} {
		if s, e := dye.Strengths(w); len(s) != len(w.Lots) || e != api.OK {
			t.Errorf("Strengths of %v: %v, %v", w, s, e)
		}
	}
}
