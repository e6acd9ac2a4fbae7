package nest

import "cmp"

// each reports whether a condition holds for each element.
func each[T any](list []T, holds func(T) bool) bool {
	for _, x := range list {
		if !holds(x) {
			return false
		}
	}
	return true
}

// rises reports whether each element is greater than the one before it.
func rises[T cmp.Ordered](list []T) bool {
	for i := 1; i < len(list); i++ {
		if list[i] <= list[i-1] {
			return false
		}
	}
	return true
}

func least(first int, more ...int) int {
	for _, n := range more {
		first = min(first, n)
	}
	return first
}

func most(first int, more ...int) int {
	for _, n := range more {
		first = max(first, n)
	}
	return first
}
