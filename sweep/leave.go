package sweep

import "nochez/lists"

// smallestSet returns the smallest set of samples that can be left out of a terrace that is consistent without any.
func (t Terrace) smallestSet() []int {
	return lists.Smallest(len(t.Samples), func(out []int) bool {
		return t.survey(lists.Without(t.Samples, out)).consistent()
	})
}
