package sweep

import "nochez/api"

// swept returns what one more sample has with a number and an error.
func swept(number, err int) Range {
	return Range{Lo: number - err, Hi: number + err}.meets(grain())
}

// worst returns the worst number for a plot and an error, and the worst width.
func (s *survey) worst(p place, err int) (number, width int) {
	width = -1 // less than any width
	bounds := s.bounds(p)
	for n := bounds.Lo; n <= bounds.Hi; n++ {
		if w := s.with(p, swept(n, err)).whole().width(); w > width {
			number, width = n, w
		}
	}
	return number, width
}

// best returns the best plot for an error, and its worst width.
func (s *survey) best(err int) (plot place, width int) {
	width = api.MaxSweepWhole + 1 // more than any width
	for p := range s.plots() {
		if _, w := s.worst(p, err); w < width {
			plot, width = p, w
		}
	}
	return plot, width
}
