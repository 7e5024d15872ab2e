package patch

import (
	"slices"

	"bellpull/api"
)

// What requests and their results have instead of an output or a middle switch.
const (
	apart   = -1 // the input is to be disconnected
	blocked = -1 // no middle switch is free
	refused = -2 // there is a connection already, or none to end
)

// board is a Clos network with its connections, in the order in which they were
// made, and the middle switch of each.
type board struct {
	n, m        int
	connections []api.Pair
	middles     []int
}

func (b *board) serve(requests []api.Pair) []int {
	results := make([]int, 0, len(requests))
	for _, request := range requests {
		handle := b.connect
		if request.B == apart {
			handle = b.disconnect
		}
		result := handle(request)
		results = append(results, result)
	}
	return results
}

func (b *board) connect(request api.Pair) int {
	inUse := func(c api.Pair) bool { return c.A == request.A || c.B == request.B }
	// This comes before the middle switches: even in a network that never
	// blocks there may be none free for an input that is connected already.
	if slices.ContainsFunc(b.connections, inUse) {
		return refused
	}
	var edges []api.Pair
	for _, connection := range b.connections {
		edges = append(edges, edgeOf(b.n, connection))
	}
	for middle := range b.m {
		if isFree(middle, edgeOf(b.n, request), edges, b.middles) {
			b.connections = append(b.connections, request)
			b.middles = append(b.middles, middle)
			return middle
		}
	}
	return blocked
}

func (b *board) disconnect(request api.Pair) int {
	at := slices.IndexFunc(b.connections, func(c api.Pair) bool { return c.A == request.A })
	if at < 0 {
		return refused
	}
	middle := b.middles[at]
	b.connections = slices.Delete(b.connections, at, at+1)
	b.middles = slices.Delete(b.middles, at, at+1)
	return middle
}
