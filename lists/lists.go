// Package lists has what the packages of several layers do with lists and numbers.
package lists

import (
	"cmp"
	"iter"
	"slices"
)

// Each reports whether a condition holds for each element.
func Each[T any](list []T, holds func(T) bool) bool {
	for _, x := range list {
		if !holds(x) {
			return false
		}
	}
	return true
}

// Rises reports whether each element is greater than the one before it.
func Rises[T cmp.Ordered](list []T) bool {
	for i := 1; i < len(list); i++ {
		if list[i] <= list[i-1] {
			return false
		}
	}
	return true
}

// Least returns the smallest of numbers.
func Least(first int, more ...int) int {
	for _, n := range more {
		first = min(first, n)
	}
	return first
}

// Most returns the greatest of numbers.
func Most(first int, more ...int) int {
	for _, n := range more {
		first = max(first, n)
	}
	return first
}

// Choices yields the rising lists of so many of the indexes below a number, in lexicographic order, each in memory of its own.
func Choices(indexes, size int) iter.Seq[[]int] {
	return func(yield func([]int) bool) {
		var extend func(chosen []int, next int) bool
		extend = func(chosen []int, next int) bool {
			if len(chosen) == size {
				return yield(slices.Clone(chosen))
			}
			for i := next; i < indexes; i++ {
				if !extend(append(chosen, i), i+1) {
					return false
				}
			}
			return true
		}
		extend(nil, 0)
	}
}

// Smallest returns the shortest list of rising indexes below a number for which a condition holds, the lexicographically first one of several; nil if it holds for none.
func Smallest(indexes int, holds func([]int) bool) []int {
	var set []int
search:
	for size := range indexes + 1 {
		for list := range Choices(indexes, size) {
			if holds(list) {
				set = list
				break search
			}
		}
	}
	return set
}

// Without returns the elements of a list whose indexes are not left out.
func Without[T any](list []T, out []int) []T {
	var kept []T
	for i, x := range list {
		if !slices.Contains(out, i) {
			kept = append(kept, x)
		}
	}
	return kept
}
