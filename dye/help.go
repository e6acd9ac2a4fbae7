package dye

import (
	"nochez/lists"
)

// help returns the best lot for a further reading with an error, and what it leaves.
func (b *bench) help(err int) (best, width int) {
	for lot := range len(b.Lots) {
		if left := b.leaves(lot, err); lot == 0 || left < width {
			best, width = lot, left
		}
	}
	return best, width
}

// leaves returns what a lot leaves, with an error.
func (b *bench) leaves(lot, err int) int {
	most := 0
	values := b.difference(lot, water)
	for value := values.Lo; value <= values.Hi; value++ {
		most = lists.Most(most, b.widthWith(Reading{Kind: Scale, Lot: lot, Value: value, Error: err}))
	}
	return most
}

// widthWith returns the width of the works with a further reading on the scale. A bound that it makes better goes on from its lot as before: it is of this lot alone, so that nothing else becomes shorter.
func (b *bench) widthWith(r Reading) int {
	width := 0
	for lot, bounds := range b.bounds() {
		high := lists.Least(bounds.Hi, r.above()+b.most[pair{r.Lot, lot}])
		low := lists.Least(-bounds.Lo, r.below()+b.most[pair{lot, r.Lot}])
		width += high + low
	}
	return width
}
