package grow_test

import (
	"slices"
	"testing"

	"nochez/api"
	"nochez/grow"
)

func TestExampleStages(t *testing.T) {
	if s, e := grow.Stages(three(), nil); !slices.Equal(s, ranges(to(0, 0), to(0, 1), to(1, 2))) || e != api.OK {
		t.Errorf("Stages: %v, %v", s, e)
	}
}

func TestExampleAlive(t *testing.T) {
	if a, e := grow.Alive(three(), nil); !slices.Equal(a, ranges(to(32, 45), to(32, 45), to(28, 45))) || e != api.OK {
		t.Errorf("Alive: %v, %v", a, e)
	}
	last := []grow.Seen{seen(2, 2, 2, 0, 100)}
	if a, e := grow.Alive(three(), last); !slices.Equal(a, ranges(to(32, 45), to(32, 45), to(32, 45))) || e != api.OK {
		t.Errorf("Alive with stage 2: %v, %v", a, e)
	}
}

func TestExampleRipe(t *testing.T) {
	if d, surely, e := grow.Ripe(three(), nil); d != to(2, 2) || surely || e != api.OK {
		t.Errorf("Ripe: %v, %v, %v", d, surely, e)
	}
}

func TestExampleLeave(t *testing.T) {
	l := []grow.Seen{seen(0, 0, 0, 40, 45), seen(2, 1, 1, 20, 25), seen(2, 1, 1, 36, 41)}
	if set, e := grow.Leave(three(), l); !slices.Equal(set, list(1)) || e != api.OK {
		t.Errorf("Leave: %v, %v", set, e)
	}
}

func TestExampleSafe(t *testing.T) {
	if d, e := grow.Safe(warm(), nil, 30); d != 2 || e != api.OK {
		t.Errorf("Safe for 30: %v, %v", d, e)
	}
	if d, e := grow.Safe(warm(), nil, 33); d != 0 || e != api.ErrMiss {
		t.Errorf("Safe for 33: %v, %v", d, e)
	}
}

// DOC.md's example 2: insects that need 20 of warmth, and get 14 to 23 in three days, may be ripe on the third day, but not surely.
func TestExampleOfTheDocument(t *testing.T) {
	b := grow.Brood{Needs: list(20), Weak: list(0, 0), Number: to(1, 1), Days: []grow.Day{day(5, 6, 0, 0), day(4, 8, 0, 0), day(5, 9, 0, 0)}}
	if d, surely, e := grow.Ripe(b, nil); d != to(2, 2) || surely || e != api.OK {
		t.Errorf("Ripe: %v, %v, %v", d, surely, e)
	}
}
