package kill_test

import (
	"reflect"
	"slices"
	"testing"

	"nochez/api"
	"nochez/kill"
)

// known checks the bounds of the water of all lots.
func known(t *testing.T, h kill.House, p kill.Plan, seen []kill.Weigh, want [][]kill.Range) {
	t.Helper()
	if l, e := kill.Waters(h, p, seen); !reflect.DeepEqual(l, want) || e != api.OK {
		t.Errorf("Waters of %v, %v, %v: %v, %v, not %v", h, p, seen, l, e, want)
	}
}

func TestExampleKilled(t *testing.T) {
	if steps, colours, e := kill.Killed(two(), hers()); !slices.Equal(steps, list(1, 1)) || !slices.Equal(colours, []uint8{1, 2}) || e != api.OK {
		t.Errorf("Killed: %v, %v, %v", steps, colours, e)
	}
}

// It is DOC.md's example 6, too: 64 to 90 after two steps.
func TestExampleWaters(t *testing.T) {
	known(t, two(), hers(), nil, rows(row(to(80, 99), to(64, 90), to(38, 63)), row(to(60, 60), to(36, 42), to(36, 42))))
}

func TestExampleWrong(t *testing.T) {
	if l, e := kill.Wrong(two(), hers()); !slices.Equal(l, list(1)) || e != api.OK {
		t.Errorf("Wrong: %v, %v", l, e)
	}
}

func TestExampleWeighed(t *testing.T) {
	known(t, two(), hers(), []kill.Weigh{weigh(0, 1, 144, 150)}, rows(row(to(80, 88), to(64, 70), to(38, 49)), row(to(60, 60), to(36, 42), to(36, 42))))
}

func TestExampleShrink(t *testing.T) {
	if r, e := kill.Shrink(two(), hers()); r != to(61, 92) || e != api.OK {
		t.Errorf("Shrink: %v, %v", r, e)
	}
	for i, want := range row(to(43, 68), to(18, 24)) {
		h := two()
		h.Lots = h.Lots[i : i+1]
		if r, e := kill.Shrink(h, hers()[i:i+1]); r != want || e != api.OK {
			t.Errorf("Shrink of lot %d: %v, %v", i, r, e)
		}
	}
}

func TestExampleBest(t *testing.T) {
	if p, n, e := kill.Best(two()); !reflect.DeepEqual(p, lists(list(0, 0, 1), list(-1, 1, 0))) || n != 5 || e != api.OK {
		t.Errorf("Best: %v, %d, %v", p, n, e)
	}
}
