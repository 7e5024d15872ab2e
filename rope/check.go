package rope

import "bellpull/api"

func within(x, low, high int) bool { return low <= x && x <= high }

// isMade says whether New or Clone made the tower. A copy of a tower's fields
// is not made by them: it would share memory with that tower.
func (t *Tower) isMade() bool { return t != nil && t.self == t }

// check returns the errors that come first in all calls with ringers.
func (t *Tower) check(ringers ...int) api.Errno {
	if !t.isMade() {
		return api.ErrState
	}
	for _, ringer := range ringers {
		if !within(ringer, 0, len(t.members)-1) {
			return api.ErrArg
		}
	}
	return api.OK
}
