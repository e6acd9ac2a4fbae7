package crop_test

import (
	"math"
	"reflect"
	"testing"

	"nochez/api"
	"nochez/crop"
	"nochez/grow"
)

type change struct {
	name string
	make func(s *crop.Season)
	want api.Errno
}

// changes are changes of the chapter's season, and the error of the season after them.
func changes() []change {
	return []change{
		{"none", func(s *crop.Season) {}, api.OK},
		{"nothing", func(s *crop.Season) { *s = crop.Season{} }, api.ErrArg},
		{"no terraces", func(s *crop.Season) { s.Terraces = nil }, api.ErrArg},
		{"1 terrace", func(s *crop.Season) { s.Terraces = s.Terraces[:1] }, api.OK},
		{"3 terraces", func(s *crop.Season) { s.Terraces = append(s.Terraces, terrace(0, 0, 0, 0)) }, api.OK},
		{"4 terraces", func(s *crop.Season) { s.Terraces = make([]crop.Terrace, 4) }, api.ErrLimit},
		{"4 terraces, a wrong one, no weather", func(s *crop.Season) {
			s.Terraces, s.Weathers = append(make([]crop.Terrace, 3), terrace(-1, 0, 0, 0)), nil
		}, api.ErrLimit},
		{"0 days", func(s *crop.Season) { s.Days, s.Weathers = 0, plan(nil) }, api.ErrArg},
		{"-1 days", func(s *crop.Season) { s.Days = -1 }, api.ErrArg},
		{"the fewest days", func(s *crop.Season) { s.Days = math.MinInt }, api.ErrArg},
		{"1 day", func(s *crop.Season) { s.Days, s.Weathers = 1, plan(list(4)) }, api.OK},
		{"5 days", func(s *crop.Season) { s.Days, s.Weathers = 5, plan(make([]int, 5)) }, api.OK},
		{"6 days", func(s *crop.Season) { s.Days, s.Weathers = 6, plan(make([]int, 6)) }, api.ErrLimit},
		{"6 days, a wrong terrace", func(s *crop.Season) { s.Days, s.Terraces[0].Most = 6, 61 }, api.ErrLimit},
		{"the most days", func(s *crop.Season) { s.Days = math.MaxInt }, api.ErrLimit},
		{"-1 pickers", func(s *crop.Season) { s.Pickers = -1 }, api.ErrArg},
		{"0 pickers", func(s *crop.Season) { s.Pickers = 0 }, api.OK},
		{"2 pickers", func(s *crop.Season) { s.Pickers = 2 }, api.OK},
		{"2 pickers, 1 terrace", func(s *crop.Season) { s.Pickers, s.Terraces = 2, s.Terraces[:1] }, api.OK},
		{"3 pickers", func(s *crop.Season) { s.Pickers = 3 }, api.ErrArg},
		{"the most pickers", func(s *crop.Season) { s.Pickers = math.MaxInt }, api.ErrArg},
		{"no weathers", func(s *crop.Season) { s.Weathers = nil }, api.ErrArg},
		{"1 weather", func(s *crop.Season) { s.Weathers = s.Weathers[:1] }, api.OK},
		{"4 weathers", func(s *crop.Season) { s.Weathers = append(s.Weathers, s.Weathers...) }, api.OK},
		{"5 weathers", func(s *crop.Season) {
			s.Weathers = append(append(s.Weathers, s.Weathers...), list(0, 0, 0))
		}, api.ErrLimit},
		{"5 weathers, 3 pickers", func(s *crop.Season) { s.Weathers, s.Pickers = make([][]int, 5), 3 }, api.ErrLimit},
		{"an empty weather", func(s *crop.Season) { s.Weathers[1] = nil }, api.ErrArg},
		{"a weather too short", func(s *crop.Season) { s.Weathers[1] = list(1, 6) }, api.ErrArg},
		{"a weather too long", func(s *crop.Season) { s.Weathers[0] = list(4, 4, 4, 4) }, api.ErrArg},
		{"growth 0", func(s *crop.Season) { s.Weathers[0][0] = 0 }, api.OK},
		{"growth -1", func(s *crop.Season) { s.Weathers[0][0] = -1 }, api.ErrArg},
		{"growth 20", func(s *crop.Season) { s.Weathers[1][2] = 20 }, api.OK},
		{"growth 21", func(s *crop.Season) { s.Weathers[1][2] = 21 }, api.ErrArg},
		{"the most growth", func(s *crop.Season) { s.Weathers[1][0] = math.MaxInt }, api.ErrArg},
		{"all 0", func(s *crop.Season) { s.Terraces[1] = terrace(0, 0, 0, 0) }, api.OK},
		{"all 60", func(s *crop.Season) { s.Terraces[1] = terrace(60, 60, 60, 60) }, api.OK},
		{"first -1", func(s *crop.Season) { s.Terraces[1].First = -1 }, api.ErrArg},
		{"first Most", func(s *crop.Season) { s.Terraces[1].First = 12 }, api.OK},
		{"first above Most", func(s *crop.Season) { s.Terraces[1].First = 13 }, api.ErrArg},
		{"most -1", func(s *crop.Season) { s.Terraces[1] = terrace(-1, -1, -1, 0) }, api.ErrArg},
		{"most 60", func(s *crop.Season) { s.Terraces[1].Most = 60 }, api.OK},
		{"most 61", func(s *crop.Season) { s.Terraces[1].Most = 61 }, api.ErrArg},
		{"the greatest Most", func(s *crop.Season) { s.Terraces[0].Most = math.MaxInt }, api.ErrArg},
		{"left -1", func(s *crop.Season) { s.Terraces[1].Left = -1 }, api.ErrArg},
		{"left Most", func(s *crop.Season) { s.Terraces[1].Left = 12 }, api.OK},
		{"left above Most", func(s *crop.Season) { s.Terraces[1].Left = 13 }, api.ErrArg},
		{"hand -1", func(s *crop.Season) { s.Terraces[1].Hand = -1 }, api.ErrArg},
		{"hand 60", func(s *crop.Season) { s.Terraces[1].Hand = 60 }, api.OK},
		{"hand 61", func(s *crop.Season) { s.Terraces[1].Hand = 61 }, api.ErrArg},
		{"the smallest Hand", func(s *crop.Season) { s.Terraces[0].Hand = math.MinInt }, api.ErrArg},
	}
}

// P4.1
func TestCheckSeason(t *testing.T) {
	for _, x := range changes() {
		s := two()
		x.make(&s)
		if e := crop.CheckSeason(s); e != x.want {
			t.Errorf("%s: CheckSeason of %v: %v", x.name, s, e)
		}
	}
}

// answer has the error of a call, and whether all its other results are zero values.
type answer struct {
	call string
	e    api.Errno
	zero bool
}

func answerOf(call string, e api.Errno, others ...any) answer {
	a := answer{call, e, true}
	for _, x := range others {
		v := reflect.ValueOf(x)
		a.zero = a.zero && (v.IsZero() || v.Kind() == reflect.Slice && v.Len() == 0)
	}
	return a
}

// ask calls all that has a season and an error.
func ask(s crop.Season, p [][]int, weather int) []answer {
	taken, left, e1 := crop.Play(s, p, weather)
	least, first, e2 := crop.Worst(s, p)
	above, e3 := crop.Above(s, p)
	best, most, e4 := crop.Best(s)
	return []answer{answerOf("Play", e1, taken, left), answerOf("Worst", e2, least, first), answerOf("Above", e3, above), answerOf("Best", e4, best, most)}
}

// A wrong season counts before a wrong plan, and before a wrong weather (R1); with an error all else is zero (R2).
func TestErrorOfTheSeason(t *testing.T) {
	for _, x := range changes() {
		if x.want == api.OK {
			continue
		}
		s := two()
		x.make(&s)
		for _, p := range [][][]int{nil, plan(nil), turns(), plan(list(5), nil, nil), plan(list(-1)), make([][]int, 100)} {
			for _, w := range list(0, 1, 2, -1, math.MaxInt, math.MinInt) {
				for _, a := range ask(s, p, w) {
					if a.e != x.want || !a.zero {
						t.Errorf("%s, %v, %d: %v", x.name, p, w, a)
					}
				}
				if crop.ProveWorst(s, p, w) || crop.ProveWorst(s, p, 0) {
					t.Errorf("%s, %v: a proof", x.name, p)
				}
			}
		}
	}
}

// P4.1, P4.2, P4.4: a plan with a list that is not as described, whatever the weather is; a plan with too few lists is only wrong for Play and Worst.
func TestErrorOfThePlan(t *testing.T) {
	for _, x := range []struct {
		name    string
		pickers int
		p       [][]int
		above   api.Errno
	}{
		{"no lists", 1, nil, api.OK},
		{"too few lists", 1, plan(list(0), list(1)), api.OK},
		{"too many lists", 1, plan(nil, nil, nil, nil), api.ErrRange},
		{"very many lists", 1, make([][]int, 100000), api.ErrRange},
		{"too many terraces", 1, plan(nil, nil, list(0, 1)), api.ErrRange},
		{"too many terraces at first", 1, plan(list(0, 1)), api.ErrRange},
		{"a terrace without pickers", 0, plan(nil, list(0), nil), api.ErrRange},
		{"very many terraces", 2, plan(nil, nil, make([]int, 1000)), api.ErrRange},
		{"terrace 2", 2, plan(nil, list(1, 2), nil), api.ErrRange},
		{"terrace 3", 2, plan(list(3)), api.ErrRange},
		{"terrace -1", 2, plan(list(-1, 0), nil, nil), api.ErrRange},
		{"falling", 2, plan(nil, nil, list(1, 0)), api.ErrRange},
		{"a terrace twice", 2, plan(nil, nil, list(1, 1)), api.ErrRange},
		{"the greatest terrace", 1, plan(list(math.MaxInt), nil, nil), api.ErrRange},
		{"the smallest terrace", 1, plan(list(math.MinInt), nil, nil), api.ErrRange},
	} {
		s := with(two(), x.pickers)
		for _, w := range list(0, 1, 2, -1) {
			all := ask(s, x.p, w)
			for _, a := range all[:2] {
				if a.e != api.ErrRange || !a.zero {
					t.Errorf("%s: %v", x.name, a)
				}
			}
			if a := all[2]; a.e != x.above || a.zero != (x.above != api.OK) {
				t.Errorf("%s: %v", x.name, a)
			}
		}
		for _, n := range list(0, -1, math.MinInt) {
			if crop.ProveWorst(s, x.p, n) {
				t.Errorf("%s: a proof of %d", x.name, n)
			}
		}
	}
}

// P4.1
func TestErrorOfTheWeather(t *testing.T) {
	for weathers := 1; weathers <= 4; weathers++ {
		s := two()
		s.Weathers = append(s.Weathers, s.Weathers...)[:weathers]
		for _, w := range list(-1, 0, 1, 2, 3, 4, 5, math.MaxInt, math.MinInt) {
			want := api.OK
			if w < 0 || w >= weathers {
				want = api.ErrRange
			}
			taken, left, e := crop.Play(s, turns(), w)
			if a := answerOf("Play", e, taken, left); a.e != want || a.zero != (want != api.OK) {
				t.Errorf("weather %d of %d: %v", w, weathers, a)
			}
		}
	}
}

// P4.5: fields are checked one by one; more than 3 are too many before that.
func TestErrorsOfReady(t *testing.T) {
	fine := brood(3, 5, day(3, 4, 0, 0))
	cold := brood(9, 5, day(3, 4, 0, 0))
	empty := crop.Field{}
	needs := fine
	needs.Brood.Needs, needs.Brood.Weak = make([]int, 5), make([]int, 6)
	days := fine
	days.Brood.Days = make([]grow.Day, 9)
	many := fine
	many.Seen = make([]grow.Seen, 7)
	beyond := fine
	beyond.Seen = []grow.Seen{seen(1, 0, 1, 0, 100)}
	number := fine
	number.Number = 101
	negative := fine
	negative.Number = -1
	none := fine
	none.Seen = []grow.Seen{seen(0, 0, 0, 0, 100)}
	for _, x := range []struct {
		name string
		l    []crop.Field
		want api.Errno
	}{
		{"fine ones", []crop.Field{fine, fine, fine}, api.OK},
		{"never ripe", []crop.Field{cold, cold, cold}, api.OK},
		{"4 fine ones", []crop.Field{fine, fine, fine, fine}, api.ErrLimit},
		{"4 wrong ones", make([]crop.Field, 4), api.ErrLimit},
		{"very many", make([]crop.Field, 100000), api.ErrLimit},
		{"an empty one", []crop.Field{empty}, api.ErrArg},
		{"too many needs", []crop.Field{fine, needs}, api.ErrLimit},
		{"too many days", []crop.Field{fine, days}, api.ErrLimit},
		{"too many observations", []crop.Field{fine, many}, api.ErrLimit},
		{"a wrong observation", []crop.Field{fine, cold, beyond}, api.ErrRange},
		{"number 101", []crop.Field{number}, api.ErrRange},
		{"number -1", []crop.Field{cold, negative}, api.ErrRange},
		{"a contradiction", []crop.Field{fine, none, fine}, api.ErrFail},
		{"a contradiction, and then an empty one", []crop.Field{none, empty}, api.ErrFail},
		{"an empty one, and then a contradiction", []crop.Field{empty, none}, api.ErrArg},
		{"number 101, and then too many days", []crop.Field{fine, number, days}, api.ErrRange},
		{"never ripe, and then too many days", []crop.Field{cold, days, number}, api.ErrLimit},
	} {
		l, e := crop.Ready(x.l)
		if a := answerOf("Ready", e, l); a.e != x.want || a.zero != (x.want != api.OK) {
			t.Errorf("%s: %v, %v", x.name, l, e)
		}
	}
}
