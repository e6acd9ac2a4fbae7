package lists_test

import (
	"math"
	"slices"
	"testing"

	"nochez/lists"
)

func TestEach(t *testing.T) {
	even := func(n int) bool { return n%2 == 0 }
	for _, x := range []struct {
		list []int
		want bool
	}{{nil, true}, {[]int{2}, true}, {[]int{2, 4, 0}, true}, {[]int{1, 2}, false}, {[]int{2, 1, 2}, false}, {[]int{2, 1}, false}} {
		if lists.Each(x.list, even) != x.want {
			t.Errorf("Each of %v: not %v", x.list, x.want)
		}
	}
}

func TestRises(t *testing.T) {
	for _, x := range []struct {
		list []int
		want bool
	}{{nil, true}, {[]int{5}, true}, {[]int{-1, 0, 7}, true}, {[]int{1, 1}, false}, {[]int{2, 1}, false}, {[]int{1, 2, 2}, false}, {[]int{1, 3, 2, 4}, false}} {
		if lists.Rises(x.list) != x.want {
			t.Errorf("Rises of %v: not %v", x.list, x.want)
		}
	}
}

func TestLeastAndMost(t *testing.T) {
	for _, x := range []struct {
		first       int
		more        []int
		least, most int
	}{{3, nil, 3, 3}, {3, []int{4}, 3, 4}, {4, []int{3}, 3, 4}, {0, []int{5, -7, 2}, -7, 5}, {math.MaxInt, []int{math.MinInt}, math.MinInt, math.MaxInt}} {
		if low, high := lists.Least(x.first, x.more...), lists.Most(x.first, x.more...); low != x.least || high != x.most {
			t.Errorf("Least, Most of %d, %v: %d, %d", x.first, x.more, low, high)
		}
	}
}

func TestChoices(t *testing.T) {
	for _, x := range []struct {
		indexes, size int
		want          [][]int
	}{
		{4, 2, [][]int{{0, 1}, {0, 2}, {0, 3}, {1, 2}, {1, 3}, {2, 3}}},
		{3, 3, [][]int{{0, 1, 2}}},
		{3, 1, [][]int{{0}, {1}, {2}}},
		{3, 0, [][]int{{}}},
		{0, 0, [][]int{{}}},
		{0, 1, nil},
		{2, 3, nil},
		{2, -1, nil},
	} {
		if l := slices.Collect(lists.Choices(x.indexes, x.size)); !slices.EqualFunc(l, x.want, slices.Equal) {
			t.Errorf("Choices of %d of %d: %v", x.size, x.indexes, l)
		}
	}
}

// A search may stop at any of the choices.
func TestChoicesUpTo(t *testing.T) {
	for stop := range 10 {
		var seen [][]int
		for c := range lists.Choices(5, 2) {
			seen = append(seen, c)
			if len(seen) > stop {
				break
			}
		}
		if all := slices.Collect(lists.Choices(5, 2)); !slices.EqualFunc(seen, all[:stop+1], slices.Equal) {
			t.Errorf("Choices up to %d: %v", stop, seen)
		}
	}
}

func TestSmallest(t *testing.T) {
	for _, x := range []struct {
		indexes int
		holds   func([]int) bool
		want    []int
	}{
		{3, func(l []int) bool { return true }, nil},
		{0, func(l []int) bool { return true }, nil},
		{3, func(l []int) bool { return false }, nil},
		{3, func(l []int) bool { return len(l) > 0 }, []int{0}},
		{3, func(l []int) bool { return slices.Contains(l, 2) }, []int{2}},
		{4, func(l []int) bool { return len(l) == 2 && l[0] > 0 }, []int{1, 2}},
		{4, func(l []int) bool { return slices.Equal(l, []int{0, 1, 2}) || slices.Equal(l, []int{1, 3}) }, []int{1, 3}},
		{4, func(l []int) bool { return len(l) == 4 }, []int{0, 1, 2, 3}},
	} {
		if set := lists.Smallest(x.indexes, x.holds); !slices.Equal(set, x.want) {
			t.Errorf("Smallest below %d: %v, not %v", x.indexes, set, x.want)
		}
	}
}

// What holds is not asked again, and nothing after it.
func TestSmallestStops(t *testing.T) {
	var asked [][]int
	lists.Smallest(3, func(l []int) bool {
		asked = append(asked, l)
		return len(l) > 0 && l[0] == 1
	})
	if !slices.EqualFunc(asked, [][]int{nil, {0}, {1}}, slices.Equal) {
		t.Errorf("asked for %v", asked)
	}
}

func TestWithout(t *testing.T) {
	list := []string{"a", "b", "c"}
	for _, x := range []struct {
		out  []int
		want []string
	}{{nil, []string{"a", "b", "c"}}, {[]int{1}, []string{"a", "c"}}, {[]int{0, 2}, []string{"b"}}, {[]int{0, 1, 2}, nil}, {[]int{3}, []string{"a", "b", "c"}}} {
		kept := lists.Without(list, x.out)
		if !slices.Equal(kept, x.want) {
			t.Errorf("Without %v: %v", x.out, kept)
		}
		for i := range kept {
			kept[i] = ""
		}
	}
	if !slices.Equal(list, []string{"a", "b", "c"}) {
		t.Errorf("the list has been written to: %v", list)
	}
}
