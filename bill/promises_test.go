package bill_test

import (
	"math"
	"math/rand/v2"
	"slices"
	"testing"

	"nochez/api"
	"nochez/bill"
)

// some calls a function with letters of all sizes.
func some(seed uint64, number int, call func(r *rand.Rand, z size, l bill.Letter)) {
	r := chance(seed)
	for _, z := range sizes() {
		for range number {
			call(r, z, draw(r, z))
		}
	}
}

// P11.1, by hand
func TestMeetsByHand(t *testing.T) {
	for _, y := range []struct {
		name string
		make func(l *bill.Letter)
		want bool
	}{
		{"none", func(l *bill.Letter) {}, true},
		{"another Kind", func(l *bill.Letter) { l.Papers[0].Kind = 2 }, false},
		{"another Party", func(l *bill.Letter) { l.Papers[0].Party = 0 }, true},
		{"no Any", func(l *bill.Letter) { l.Clauses[0].Party = 5 }, true},
		{"for another Party", func(l *bill.Letter) { l.Clauses[0].Party = 4 }, false},
		{"for Party 0", func(l *bill.Letter) { l.Clauses[0].Party = 0 }, false},
		{"the smallest Quantity", func(l *bill.Letter) { l.Papers[0].Quantity = 90 }, true},
		{"less", func(l *bill.Letter) { l.Papers[0].Quantity = 89 }, false},
		{"the greatest Quantity", func(l *bill.Letter) { l.Papers[0].Quantity = 110 }, true},
		{"more", func(l *bill.Letter) { l.Papers[0].Quantity = 111 }, false},
		{"the first day", func(l *bill.Letter) { l.Papers[0].Dated = 10 }, true},
		{"before it", func(l *bill.Letter) { l.Papers[0].Dated = 9 }, false},
		{"the last day", func(l *bill.Letter) { l.Papers[0].Dated = 20 }, true},
		{"after it", func(l *bill.Letter) { l.Papers[0].Dated = 21 }, false},
		{"another mark", func(l *bill.Letter) { l.Papers[0].Mark = 0 }, true},
		{"too late", func(l *bill.Letter) { l.Expiry = 0 }, true},
		{"another day of Arrives", func(l *bill.Letter) { l.Papers[0].Arrives = to(0, 0) }, true},
	} {
		t.Run(y.name, func(t *testing.T) { meets(t, with(lading(), y.make), 0, 0, y.want) })
	}
}

// P11.1
func TestMeetsByTheReference(t *testing.T) {
	yes, no := 0, 0
	some(11, 200, func(_ *rand.Rand, _ size, l bill.Letter) {
		for i, c := range l.Clauses {
			for k, p := range l.Papers {
				is := agrees(c, p)
				meets(t, l, i, k, is)
				if is {
					yes++
				} else {
					no++
				}
			}
		}
	})
	if yes < 1000 || no < 1000 {
		t.Errorf("%d papers meet a clause, %d do not", yes, no)
	}
}

// alike is a clause that any paper meets which simple makes, for asks for one from a party.
func alike() bill.Clause { return clause(4, bill.Any, 0, 9, 0, 9) }

func from(party int) bill.Clause { return clause(4, party, 0, 9, 0, 9) }

func simple(party, mark, low, high int) bill.Paper { return paper(4, party, mark, 5, 5, low, high) }

// letter is one that does not expire early.
func letter(clauses []bill.Clause, papers ...bill.Paper) bill.Letter {
	return bill.Letter{Clauses: clauses, Papers: papers, Expiry: 1000}
}

func clauses(l ...bill.Clause) []bill.Clause { return l }

// P11.2, P11.3, by hand
func TestDayAndPresentByHand(t *testing.T) {
	for _, y := range []struct {
		name        string
		l           bill.Letter
		day         bill.Range
		early, late []int
	}{
		{"one paper", letter(clauses(alike()), simple(1, 0, 3, 8)), to(3, 8), list(0), list(0)},
		{"on one day", letter(clauses(alike()), simple(1, 0, 0, 0)), to(0, 0), list(0), list(0)},
		{"on the last day", letter(clauses(alike()), simple(1, 0, 1000, 1000)), to(1000, 1000), list(0), list(0)},
		{"one is earlier first, and another one last", letter(clauses(alike()), simple(1, 0, 3, 8), simple(1, 0, 4, 7)), to(3, 7), list(0), list(1)},
		{"the same days", letter(clauses(alike()), simple(1, 0, 3, 8), simple(1, 1, 3, 8)), to(3, 8), list(0), list(0)},
		{"the other mark is earlier", letter(clauses(alike()), simple(1, 0, 4, 8), simple(1, 1, 3, 8)), to(3, 8), list(1), list(0)},
		{"the latest paper counts", letter(clauses(alike(), from(2)), simple(2, 0, 5, 6), simple(1, 0, 2, 9)), to(5, 9), list(1, 0), list(1, 0)},
		{"the first paper is needed for the second clause", letter(clauses(alike(), from(2)), simple(2, 0, 5, 5), simple(1, 0, 7, 7), simple(1, 0, 8, 8)), to(7, 7), list(1, 0), list(1, 0)},
		{"the first paper that is early enough", letter(clauses(alike(), alike()), simple(1, 0, 9, 9), simple(1, 0, 5, 5), simple(1, 0, 2, 2), simple(1, 0, 5, 5)), to(5, 5), list(1, 2), list(1, 2)},
		{"in the order of the papers, not of the days", letter(clauses(alike(), alike()), simple(1, 0, 9, 9), simple(1, 0, 5, 5), simple(1, 0, 2, 2)), to(5, 5), list(1, 2), list(1, 2)},
		{"both marks are as early, and the second one has the first paper", letter(clauses(from(1), from(2)), simple(1, 8, 3, 3), simple(1, 3, 2, 2), simple(2, 3, 3, 3), simple(2, 8, 1, 1)), to(3, 3), list(0, 3), list(0, 3)},
		{"not across the marks", letter(clauses(from(1), from(2)), simple(1, 8, 3, 3), simple(1, 3, 7, 7), simple(2, 3, 3, 3), simple(2, 8, 9, 9)), to(7, 7), list(1, 2), list(1, 2)},
		{"each is exchanged", letter(clauses(from(1), alike(), from(3)), simple(3, 0, 1, 1), simple(1, 0, 2, 2), simple(2, 0, 3, 3)), to(3, 3), list(1, 2, 0), list(1, 2, 0)},
		{"a mark is earlier first, and the other one last", letter(clauses(from(1), from(2)), simple(1, 1, 2, 20), simple(2, 1, 4, 30), simple(1, 2, 5, 9), simple(2, 2, 6, 8)), to(4, 9), list(0, 1), list(2, 3)},
		{"all papers are needed", letter(slices.Repeat(clauses(alike()), 6), simple(1, 0, 1, 2), simple(1, 0, 1, 3), simple(1, 0, 4, 4), simple(1, 0, 2, 9), simple(1, 0, 3, 3), simple(1, 0, 0, 0)), to(4, 9), list(0, 1, 2, 3, 4, 5), list(0, 1, 2, 3, 4, 5)},
	} {
		t.Run(y.name, func(t *testing.T) {
			comes(t, y.l, y.day)
			presents(t, y.l, false, y.early)
			presents(t, y.l, true, y.late)
			for _, day := range list(y.day.Lo-1, y.day.Lo, y.day.Hi-1, y.day.Hi) {
				if day >= 0 {
					comes(t, expires(y.l, day), y.day)
				}
			}
		})
	}
	for _, l := range []bill.Letter{
		letter(clauses(alike())),
		letter(clauses(alike(), alike()), simple(1, 0, 1, 1)),
		letter(clauses(alike(), alike()), simple(1, 0, 1, 1), simple(1, 1, 1, 1)),
		letter(clauses(from(1), from(2)), simple(1, 0, 1, 1), simple(1, 0, 1, 1)),
		letter(clauses(from(1), alike(), from(2)), simple(2, 0, 1, 1), simple(1, 0, 1, 1)),
		letter(slices.Repeat(clauses(alike()), 6), slices.Repeat([]bill.Paper{simple(1, 0, 1, 1)}, 5)...),
	} {
		cannot(t, l)
	}
}

// P11.2, P2: all truths are tried.
func TestDayInAllTruths(t *testing.T) {
	r, wide, none := chance(12), 0, 0
	for range 600 {
		l := draw(r, small)
		if len(presentations(l)) == 0 {
			cannot(t, l)
			none++
			continue
		}
		day := bounds(l)
		comes(t, l, day)
		if day.Lo < day.Hi {
			wide++
		}
	}
	if wide < 150 || none < 150 {
		t.Errorf("%d first days are not known, %d letters have none", wide, none)
	}
}

// P11.2, P11.3: all presentations are tried, in the truths at the ends; that these have the ends of the first day, TestDayInAllTruths tests.
func TestDayAndPresentByTheReference(t *testing.T) {
	can, none, exchanged, later := 0, 0, 0, 0
	some(13, 400, func(_ *rand.Rand, _ size, l bill.Letter) {
		all := presentations(l)
		if len(all) == 0 {
			cannot(t, l)
			none++
			return
		}
		early, late := ends(l)
		low, first := firstDay(all, early)
		high, last := firstDay(all, late)
		comes(t, l, to(low, high))
		presents(t, l, false, first)
		presents(t, l, true, last)
		can++
		if !slices.Equal(first, all[0]) {
			later++
		}
		if !slices.IsSorted(first) {
			exchanged++
		}
	})
	if can < 600 || none < 300 || exchanged < 300 || later < 200 {
		t.Errorf("%d have a presentation, %d have none; %d times a paper is not in its order, %d times the first one of all is too late", can, none, exchanged, later)
	}
}

// P11.3, by hand
func TestProvePresentByHand(t *testing.T) {
	for _, y := range []struct {
		papers []int
		day    int
		want   bool
	}{
		{list(0, 1), 40, true}, {list(0, 1), 1000, true}, {list(0, 1), math.MaxInt, true}, {list(0, 1), 39, false}, {list(0, 1), 30, false}, {list(0, 1), -1, false}, {list(0, 1), math.MinInt, false},
		{list(4, 2), 30, true}, {list(4, 2), 29, false}, {list(4, 1), 1000, false}, {list(0, 2), 1000, false}, {list(3, 2), 1000, false}, {list(1, 0), 1000, false}, {list(0, 0), 1000, false}, {list(1, 1), 1000, false},
		{nil, 1000, false}, {list(0), 1000, false}, {list(0, 1, 2), 1000, false}, {list(0, 1, 1), 1000, false}, {list(0, 5), 1000, false}, {list(-1, 1), 1000, false}, {list(0, math.MaxInt), 1000, false}, {list(math.MinInt, 1), 1000, false}, {slices.Repeat(list(0), 1000), 1000, false},
	} {
		if is := bill.ProvePresent(more(lading(), fifth()), y.papers, y.day); is != y.want {
			t.Errorf("ProvePresent of %v, %d: %v", y.papers, y.day, is)
		}
	}
	two := letter(clauses(alike(), alike()), simple(1, 0, 1, 1), simple(1, 0, 2, 2), simple(1, 1, 2, 2))
	for _, y := range []struct {
		papers []int
		want   bool
	}{{list(0, 1), true}, {list(1, 0), true}, {list(0, 0), false}, {list(1, 1), false}, {list(0, 2), false}, {list(2, 1), false}, {list(2, 2), false}} {
		if is := bill.ProvePresent(two, y.papers, 2); is != y.want {
			t.Errorf("ProvePresent of %v: %v", y.papers, is)
		}
	}
	// It holds on any day from its own on, also after the Expiry.
	if !bill.ProvePresent(expires(lading(), 0), list(0, 1), 40) {
		t.Error("ProvePresent depends on the Expiry")
	}
}

// P11.3, R11: all lists of few papers are tried.
func TestProvePresentByTheReference(t *testing.T) {
	yes, no := 0, 0
	some(14, 100, func(r *rand.Rand, _ size, l bill.Letter) {
		all := presentations(l)
		_, late := ends(l)
		try := func(papers []int, day int) {
			t.Helper()
			is := slices.ContainsFunc(all, func(x []int) bool { return slices.Equal(x, papers) }) && dayOf(papers, late) <= day
			if bill.ProvePresent(l, papers, day) != is {
				t.Fatalf("ProvePresent of %v, %v, %d: not %v", l, papers, day, is)
			}
			if is {
				yes++
			} else {
				no++
			}
		}
		for range 30 {
			var papers []int
			for range len(l.Clauses) + r.IntN(2)*(r.IntN(3)-1) {
				papers = append(papers, between(r, -1, len(l.Papers)))
			}
			if len(all) > 0 && r.IntN(2) == 0 {
				papers = slices.Clone(all[r.IntN(len(all))])
				if r.IntN(2) == 0 {
					papers[r.IntN(len(papers))] = r.IntN(len(l.Papers))
				}
			}
			day := between(r, 0, 1000)
			if len(all) > 0 && r.IntN(2) == 0 {
				day = dayOf(all[r.IntN(len(all))], late) - r.IntN(2)
			}
			try(papers, day)
		}
	})
	if yes < 1000 || no < 1000 {
		t.Errorf("%d are presentations in time, %d are not", yes, no)
	}
}

// P11.4, by hand
func TestFailingByHand(t *testing.T) {
	three := clauses(from(1), from(2), from(3))
	for _, y := range []struct {
		name string
		l    bill.Letter
		want []int
	}{
		{"no papers", letter(three), list(0, 1, 2)},
		{"no papers that meet a clause", letter(three, simple(4, 0, 1, 1), simple(5, 0, 1, 1)), list(0, 1, 2)},
		{"one paper", letter(three, simple(2, 0, 1, 1)), list(0, 2)},
		{"two papers", letter(three, simple(3, 0, 1, 1), simple(1, 0, 1, 1)), list(1)},
		{"two marks", letter(three, simple(3, 0, 1, 1), simple(1, 1, 1, 1)), list(0, 1)},
		{"one mark has two papers", letter(three, simple(3, 0, 1, 1), simple(1, 1, 1, 1), simple(2, 1, 1, 1)), list(2)},
		{"each mark has two papers", letter(three, simple(1, 1, 1, 1), simple(2, 1, 1, 1), simple(2, 3, 1, 1), simple(3, 3, 1, 1)), list(0)},
		{"one is not in time", expires(letter(three, simple(1, 0, 1, 8), simple(2, 0, 1, 9), simple(3, 0, 1, 8)), 8), list(1)},
		{"none is in time", expires(letter(three, simple(1, 0, 1, 8), simple(2, 0, 1, 9), simple(3, 0, 1, 8)), 7), list(0, 1, 2)},
		{"one paper for two clauses", letter(clauses(alike(), from(1)), simple(1, 0, 1, 1)), list(0)},
		{"one paper for the first one", letter(clauses(alike(), from(1)), simple(2, 0, 1, 1)), list(1)},
		{"two papers for three clauses", letter(clauses(alike(), from(1), alike()), simple(1, 0, 1, 1), simple(2, 0, 1, 1)), list(0)},
		{"two papers of which one clause takes none", letter(clauses(alike(), from(1), alike()), simple(3, 0, 1, 1), simple(2, 0, 1, 1)), list(1)},
		{"only one clause", letter(clauses(alike()), paper(4, 1, 0, 10, 5, 1, 1)), list(0)},
		{"the last two", letter(clauses(alike(), from(1), from(2)), simple(3, 9, 1, 1), simple(4, 9, 1, 1)), list(1, 2)},
	} {
		t.Run(y.name, func(t *testing.T) { fails(t, y.l, y.want) })
	}
}

// P11.4, P11.5, P11.6, P6: all sets, and all lists of presentations, are tried.
func TestFailingCriticalTimesByTheReference(t *testing.T) {
	var lengths, papers, often [11]int
	some(15, 500, func(_ *rand.Rand, _ size, l bill.Letter) {
		want := failing(l)
		lengths[len(want)]++
		if len(want) > 0 {
			fails(t, l, want)
			return
		}
		necessary, n := critical(l), times(l)
		papers[len(necessary)]++
		often[n]++
		pays(t, l, necessary, n)
	})
	if lengths[0] < 500 || lengths[1] < 300 || lengths[2] < 100 || lengths[3] < 50 || lengths[4] < 20 || lengths[5] < 10 {
		t.Errorf("so many failing clauses: %v", lengths)
	}
	if papers[0] < 100 || papers[1] < 100 || papers[2] < 50 || papers[3] < 20 || papers[6] < 5 {
		t.Errorf("so many critical papers: %v", papers)
	}
	if often[1] < 200 || often[2] < 50 || often[3] < 20 || often[4] < 10 || often[5] < 5 {
		t.Errorf("so many times: %v", often)
	}
}

// P11.5, P11.6, by hand
func TestCriticalAndTimesByHand(t *testing.T) {
	five := clauses(alike(), from(1))
	for _, y := range []struct {
		name     string
		l        bill.Letter
		critical []int
		times    int
	}{
		{"one paper", letter(clauses(alike()), simple(1, 0, 1, 1)), list(0), 1},
		{"two papers", letter(clauses(alike()), simple(1, 0, 1, 1), simple(1, 3, 1, 1)), nil, 2},
		{"ten papers", letter(clauses(alike()), slices.Repeat([]bill.Paper{simple(1, 0, 1, 1)}, 10)...), nil, 10},
		{"ten papers, and two clauses", letter(five, slices.Repeat([]bill.Paper{simple(1, 0, 1, 1)}, 10)...), nil, 5},
		{"three papers", letter(five, slices.Repeat([]bill.Paper{simple(1, 0, 1, 1)}, 3)...), nil, 1},
		{"one is for both, but needed for the second one", letter(five, simple(2, 0, 1, 1), simple(3, 0, 1, 1), simple(1, 0, 1, 1)), list(2), 1},
		{"two for the second one", letter(five, simple(1, 0, 1, 1), simple(2, 0, 1, 1), simple(1, 0, 1, 1)), nil, 1},
		{"all are exchanged", letter(five, simple(1, 0, 1, 1), simple(1, 0, 1, 1), simple(2, 0, 1, 1), simple(2, 0, 1, 1)), nil, 2},
		{"once with each mark", letter(five, simple(1, 0, 1, 1), simple(1, 2, 1, 1), simple(2, 2, 1, 1), simple(2, 0, 1, 1)), nil, 2},
		{"not across the marks", letter(five, simple(1, 0, 1, 1), simple(1, 0, 1, 1), simple(2, 0, 1, 1), simple(2, 2, 1, 1)), nil, 1},
		{"one of the marks is not enough", letter(five, simple(2, 0, 1, 1), simple(1, 0, 1, 1), simple(2, 2, 1, 1), simple(2, 2, 1, 1)), list(0, 1), 1},
		{"what is not in time does not help", expires(letter(five, simple(2, 0, 1, 5), simple(1, 0, 1, 5), simple(2, 0, 1, 6), simple(1, 0, 5, 6)), 5), list(0, 1), 1},
		{"what is in time does", expires(letter(five, simple(2, 0, 1, 5), simple(1, 0, 1, 5), simple(2, 0, 1, 6), simple(1, 0, 5, 6)), 6), nil, 2},
		{"one of two is critical", letter(clauses(from(1), from(2)), simple(2, 0, 1, 1), simple(1, 0, 1, 1), simple(2, 0, 1, 1)), list(1), 1},
		{"two marks, without a paper in both", letter(clauses(from(1), from(2)), simple(2, 0, 1, 1), simple(1, 0, 1, 1), simple(2, 1, 1, 1), simple(1, 1, 1, 1)), nil, 2},
		{"three times by a chain", letter(clauses(from(1), alike(), from(3)), simple(3, 0, 1, 1), simple(1, 0, 1, 1), simple(3, 0, 1, 1), simple(1, 0, 1, 1), simple(3, 0, 1, 1), simple(1, 0, 1, 1), simple(3, 0, 1, 1), simple(1, 0, 1, 1), simple(2, 0, 1, 1)), nil, 3},
		{"all six are critical", letter(slices.Repeat(clauses(alike()), 6), slices.Repeat([]bill.Paper{simple(1, 0, 1, 1)}, 6)...), list(0, 1, 2, 3, 4, 5), 1},
		{"one to spare", letter(slices.Repeat(clauses(alike()), 6), slices.Repeat([]bill.Paper{simple(1, 0, 1, 1)}, 7)...), nil, 1},
	} {
		t.Run(y.name, func(t *testing.T) { pays(t, y.l, y.critical, y.times) })
	}
}

// The Expiry is the last day on which a paper is in time.
func TestExpiry(t *testing.T) {
	l := letter(clauses(alike()), simple(1, 0, 5, 7))
	for day := range 1001 {
		l.Expiry = day
		comes(t, l, to(5, 7))
		if day >= 7 {
			pays(t, l, list(0), 1)
		} else {
			fails(t, l, list(0))
		}
		if sure, may, e := bill.Pays(l); sure != (day >= 7) || may != (day >= 5) || e != api.OK {
			t.Fatalf("Pays of %v: %v, %v, %v", l, sure, may, e)
		}
	}
}
