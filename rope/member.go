package rope

import (
	"slices"

	"bellpull/api"
)

// What a ringer is doing.
const (
	idle = iota
	waiting
	ringing
)

// numbers has the number of a request of each ringer.
type numbers struct {
	of [api.MaxRingers]int
}

// raise replaces the number of a ringer by a greater one.
func (n *numbers) raise(ringer, number int) { n.of[ringer] = max(n.of[ringer], number) }

// isNext says whether the number of a ringer follows the one in others.
func (n *numbers) isNext(ringer int, others *numbers) bool {
	return n.of[ringer] == others.of[ringer]+1
}

func (n *numbers) list(ringers int) []int { return slices.Clone(n.of[:ringers]) }

// member is a ringer, with the greatest numbers of requests that it knows of.
type member struct {
	numbers
	doing int
}

// token has the numbers of the last requests that were served, and the ringers
// that it goes to next.
type token struct {
	numbers
	queue []int
}

// update notes that a ringer has been served, and puts all others that it knows
// to be waiting in the queue.
func (k *token) update(served int, members []member) {
	knower := &members[served]
	k.of[served] = knower.of[served]
	for ringer := range members {
		if knower.isNext(ringer, &k.numbers) && !slices.Contains(k.queue, ringer) {
			k.queue = append(k.queue, ringer)
		}
	}
}
