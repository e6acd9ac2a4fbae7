package bill_test

import (
	"math/rand/v2"
	"slices"
	"testing"

	"nochez/api"
	"nochez/bill"
)

// facts are what the package tells of a letter.
type facts struct {
	can, sure, may    bool
	day               bill.Range
	early, late       []int
	failing, critical []int
	times             int
}

// factsOf asks for all of it, and checks which errors there are.
func factsOf(t *testing.T, l bill.Letter) (f facts) {
	t.Helper()
	var e [6]api.Errno
	f.sure, f.may, e[0] = bill.Pays(l)
	f.failing, e[1] = bill.Failing(l)
	f.times, e[2] = bill.Times(l)
	f.day, e[3] = bill.Day(l)
	f.early, e[4] = bill.Present(l, false)
	f.late, e[5] = bill.Present(l, true)
	f.can = e[3] == api.OK
	want := [6]api.Errno{3: e[3], 4: e[3], 5: e[3]}
	critical, e7 := bill.Critical(l)
	f.critical = critical
	if e != want || !f.can && e[3] != api.ErrFail || f.sure != (e7 == api.OK) || !f.sure && e7 != api.ErrState {
		t.Fatalf("%v: %v, %v, %v", l, f, e, e7)
	}
	if f.sure && !f.may || f.may && !f.can || !slices.IsSorted(f.failing) || !slices.IsSorted(f.critical) {
		t.Fatalf("%v: %v", l, f)
	}
	return f
}

// reordered returns a letter with its papers in another order, and for each paper its new index.
func reordered(r *rand.Rand, l bill.Letter) (bill.Letter, []int) {
	order := r.Perm(len(l.Papers))
	other := clone(l)
	for i, into := range order {
		other.Papers[into] = l.Papers[i]
	}
	return other, order
}

// P11.7, P2, P3: whatever arrives on whatever day
func TestInEachTruth(t *testing.T) {
	surely, perhaps := 0, 0
	some(21, 300, func(r *rand.Rand, _ size, l bill.Letter) {
		f := factsOf(t, l)
		if !f.can {
			return
		}
		all := presentations(l)
		for range 10 {
			truth := drawTruth(r, l)
			day, _ := firstDay(all, truth)
			if !in(f.day, day) || f.sure && day > l.Expiry || !f.may && day <= l.Expiry {
				t.Fatalf("%v: %v, but in %v it is %d", l, f, truth, day)
			}
		}
		early, late := ends(l)
		low, _ := firstDay(all, early)
		high, _ := firstDay(all, late)
		if f.day != to(low, high) || f.sure != (high <= l.Expiry) || f.may != (low <= l.Expiry) {
			t.Fatalf("%v: %v, but it is reached in %d to %d", l, f, low, high)
		}
		if f.sure {
			surely++
		} else if f.may {
			perhaps++
		}
	})
	if surely < 300 || perhaps < 50 {
		t.Errorf("%d surely pay, %d only may pay", surely, perhaps)
	}
}

// P11.8
func TestEveryClause(t *testing.T) {
	met, open := 0, 0
	some(22, 300, func(r *rand.Rand, _ size, l bill.Letter) {
		f := factsOf(t, l)
		for _, papers := range [][]int{f.early, f.late} {
			if !f.can {
				continue
			}
			if len(papers) != len(l.Clauses) || !bill.ProvePresent(l, papers, 1000) {
				t.Fatalf("Present of %v: %v", l, papers)
			}
			for i, k := range papers {
				if is, e := bill.Meets(l, i, k); !is || e != api.OK || l.Papers[k].Mark != l.Papers[papers[0]].Mark || slices.Contains(papers[:i], k) {
					t.Fatalf("Present of %v: %v", l, papers)
				}
			}
			met++
		}
		i := r.IntN(len(l.Clauses))
		none := with(l, func(l *bill.Letter) {
			l.Papers = slices.DeleteFunc(l.Papers, func(p bill.Paper) bool { return agrees(l.Clauses[i], p) })
		})
		cannot(t, none)
		if f.can {
			open++
		}
	})
	if met < 800 || open < 400 {
		t.Errorf("%d presentations, of which %d are gone without the papers for a clause", met, open)
	}
}

// P11.9, P7
func TestInAnyOrder(t *testing.T) {
	necessary := 0
	some(23, 300, func(r *rand.Rand, _ size, l bill.Letter) {
		one := factsOf(t, l)
		other, order := reordered(r, l)
		two := factsOf(t, other)
		var moved []int
		for _, i := range one.critical {
			moved = append(moved, order[i])
		}
		slices.Sort(moved)
		if one.can != two.can || one.sure != two.sure || one.may != two.may || one.day != two.day || !slices.Equal(one.failing, two.failing) || one.times != two.times || !slices.Equal(moved, two.critical) {
			t.Fatalf("%v: %v; in another order, %v: %v", l, one, order, two)
		}
		necessary += len(moved)
	})
	if necessary < 300 {
		t.Errorf("only %d critical papers", necessary)
	}
}

// P11.10
func TestOneMorePaper(t *testing.T) {
	earlier, mended, oftener := 0, 0, 0
	some(24, 400, func(r *rand.Rand, z size, l bill.Letter) {
		if len(l.Papers) == api.MaxBillPapers {
			return
		}
		one := factsOf(t, l)
		for range 3 {
			p := drawPaper(r, z, l.Clauses)
			if len(l.Papers) > 0 && r.IntN(2) == 0 {
				p.Mark = l.Papers[0].Mark
			}
			two := factsOf(t, more(l, p))
			late := one.can && (!two.can || two.day.Lo > one.day.Lo || two.day.Hi > one.day.Hi)
			if late || len(two.failing) > len(one.failing) || two.times < one.times || one.sure && !two.sure || one.may && !two.may {
				t.Fatalf("%v: %v; with %v: %v", l, one, p, two)
			}
			if one.can && two.day != one.day {
				earlier++
			}
			if len(two.failing) < len(one.failing) {
				mended++
			}
			if one.times > 0 && two.times > one.times {
				oftener++
			}
		}
	})
	if earlier < 100 || mended < 100 || oftener < 50 {
		t.Errorf("%d are earlier, %d have fewer failing clauses, %d can be paid more often", earlier, mended, oftener)
	}
}

// P11.11
func TestOneMoreClause(t *testing.T) {
	later, worse, rarer := 0, 0, 0
	some(25, 400, func(r *rand.Rand, z size, l bill.Letter) {
		if len(l.Clauses) == api.MaxBillClauses {
			return
		}
		one := factsOf(t, l)
		for range 3 {
			c := drawClause(r, z)
			if r.IntN(2) == 0 {
				c = l.Clauses[0]
			}
			two := factsOf(t, with(l, func(l *bill.Letter) { l.Clauses = append(l.Clauses, c) }))
			early := two.can && (!one.can || two.day.Lo < one.day.Lo || two.day.Hi < one.day.Hi)
			if early || len(two.failing) < len(one.failing) || two.times > one.times || two.sure && !one.sure || two.may && !one.may {
				t.Fatalf("%v: %v; with %v: %v", l, one, c, two)
			}
			if two.can && two.day != one.day {
				later++
			}
			if len(two.failing) > len(one.failing) {
				worse++
			}
			if two.times > 0 && two.times < one.times {
				rarer++
			}
		}
	})
	if later < 100 || worse < 100 || rarer < 50 {
		t.Errorf("%d are later, %d have more failing clauses, %d can be paid less often", later, worse, rarer)
	}
}

// P11.12, P6: any shorter list is tried, and any one before it, by what the package says of the letter without them.
func TestFailingClauses(t *testing.T) {
	failed, left := 0, 0
	some(26, 300, func(_ *rand.Rand, _ size, l bill.Letter) {
		f := factsOf(t, l)
		if f.sure != (len(f.failing) == 0) || f.sure != (f.times >= 1) {
			t.Fatalf("%v: %v", l, f)
		}
		for _, set := range sets(len(l.Clauses)) {
			if len(set) == len(l.Clauses) {
				break
			}
			sure, _, e := bill.Pays(with(l, func(l *bill.Letter) { l.Clauses = without(l.Clauses, set) }))
			if e != api.OK || sure != slices.Equal(set, f.failing) {
				t.Fatalf("Failing of %v: %v, but whether it surely pays without %v: %v", l, f.failing, set, sure)
			}
			if sure && len(set) > 0 {
				left++
			}
			if sure {
				return
			}
		}
		failed++
		if len(f.failing) != len(l.Clauses) {
			t.Fatalf("Failing of %v: %v", l, f.failing)
		}
	})
	if failed < 100 || left < 200 {
		t.Errorf("%d letters have only failing clauses, %d others, too", failed, left)
	}
}

// P11.13
func TestCriticalPapers(t *testing.T) {
	is, not, often := 0, 0, 0
	some(27, 300, func(_ *rand.Rand, _ size, l bill.Letter) {
		f := factsOf(t, l)
		if !f.sure {
			return
		}
		for i := range l.Papers {
			sure, _, e := bill.Pays(withoutPaper(l, i))
			if e != api.OK || sure == slices.Contains(f.critical, i) {
				t.Fatalf("Critical of %v: %v, but whether it surely pays without %d: %v", l, f.critical, i, sure)
			}
			if sure {
				not++
			} else {
				is++
			}
		}
		if f.times > 1 {
			often++
			if len(f.critical) > 0 {
				t.Fatalf("%v: %v", l, f)
			}
		}
	})
	if is < 300 || not < 500 || often < 50 {
		t.Errorf("%d papers are critical, %d are not; %d letters can be paid more than once", is, not, often)
	}
}

// P11.14
func TestLater(t *testing.T) {
	sooner, moved := 0, 0
	some(28, 300, func(r *rand.Rand, _ size, l bill.Letter) {
		one := factsOf(t, l)
		for range 3 {
			two := factsOf(t, expires(l, between(r, l.Expiry, 1000)))
			if one.sure && !two.sure || one.may && !two.may || one.day != two.day || len(two.failing) > len(one.failing) || two.times < one.times {
				t.Fatalf("%v: %v; with a later Expiry: %v", l, one, two)
			}
			if two.sure && !one.sure {
				sooner++
			}
		}
		room := 1000
		for _, p := range l.Papers {
			room = min(room, 1000-p.Arrives.Hi)
		}
		days := r.IntN(room + 1)
		two := factsOf(t, with(l, func(l *bill.Letter) {
			for i := range l.Papers {
				l.Papers[i].Arrives.Lo += days
				l.Papers[i].Arrives.Hi += days
			}
		}))
		if one.can != two.can || one.can && two.day != to(one.day.Lo+days, one.day.Hi+days) || !slices.Equal(one.early, two.early) || !slices.Equal(one.late, two.late) {
			t.Fatalf("%v: %v; %d days later: %v", l, one, days, two)
		}
		if one.can && days > 0 {
			moved++
		}
	})
	if sooner < 100 || moved < 300 {
		t.Errorf("%d surely pay only with a later Expiry, %d first days are later", sooner, moved)
	}
}

// P11.15
func TestMarks(t *testing.T) {
	exchanged := 0
	some(29, 300, func(r *rand.Rand, _ size, l bill.Letter) {
		marks := r.Perm(10)
		other := with(l, func(l *bill.Letter) {
			for i := range l.Papers {
				l.Papers[i].Mark = marks[l.Papers[i].Mark]
			}
		})
		one, two := factsOf(t, l), factsOf(t, other)
		if text(one) != text(two) {
			t.Fatalf("%v: %v; with other marks, %v: %v", l, one, other, two)
		}
		if one.can && text(l) != text(other) {
			exchanged++
		}
	})
	if exchanged < 300 {
		t.Errorf("only %d letters have a presentation, and other marks", exchanged)
	}
}
