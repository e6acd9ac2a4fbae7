package crop

import (
	"nochez/api"
	"nochez/grow"
)

// never is the ready day of a field that has none.
const never = -1

// readyDay returns the ready day of a field, or its error.
func (f Field) readyDay() (int, api.Errno) {
	day, e := grow.Safe(f.Brood, f.Seen, f.Number)
	if e == api.ErrMiss {
		return never, api.OK
	}
	return day, e
}
