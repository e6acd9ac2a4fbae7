package sweep

import "nochez/lists"

// smallestSet returns the smallest set of samples that can be left out of a terrace that is consistent without any.
func (t Terrace) smallestSet() []int {
	var set []int
search:
	for size := range len(t.Samples) + 1 {
		for out := range lists.Choices(len(t.Samples), size) {
			if t.survey(lists.Without(t.Samples, out)).consistent() {
				set = out
				break search
			}
		}
	}
	return set
}
