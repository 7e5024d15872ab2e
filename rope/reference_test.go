package rope_test

import (
	"fmt"
	"slices"
	"testing"

	"bellpull/api"
	"bellpull/rope"
)

// calls are the calls of a tower, which the reference has, too.
type calls interface {
	Want(ringer int) api.Errno
	Leave(ringer int) api.Errno
	Deliver(from, to int) api.Errno
	Inside() int
	Holder() int
	Waiting() []int
	Queue() []int
	Known(ringer int) []int
	Served() []int
	Flight() []api.Call
	Sent() int
}

// reference is a tower as the chapter describes it, with all messages in one
// list, in the order in which they were sent.
type reference struct {
	n, token int // the token is at a ringer, or at -1
	doing    map[int]string
	known    map[api.Pair]int // what A knows of B
	served   map[int]int
	queue    []int
	mail     []api.Call
	sent     int
}

func newReference(n, holder int) *reference {
	return &reference{n: n, token: holder, doing: map[int]string{}, known: map[api.Pair]int{}, served: map[int]int{}}
}

func (r *reference) post(c api.Call) {
	r.mail = append(r.mail, c)
	r.sent++
	if c.Token {
		r.token = -1
	}
}

func (r *reference) Want(ringer int) api.Errno {
	switch {
	case ringer < 0 || ringer >= r.n:
		return api.ErrArg
	case r.doing[ringer] != "":
		return api.ErrFull
	case r.token == ringer:
		r.doing[ringer] = "rope"
		return api.OK
	}
	r.doing[ringer] = "waits"
	own := api.Pair{A: ringer, B: ringer}
	r.known[own]++
	for other := range r.n {
		if other != ringer {
			r.post(api.Call{From: ringer, To: other, No: r.known[own]})
		}
	}
	return api.OK
}

func (r *reference) Leave(ringer int) api.Errno {
	if ringer < 0 || ringer >= r.n {
		return api.ErrArg
	}
	if r.doing[ringer] != "rope" {
		return api.ErrNone
	}
	delete(r.doing, ringer)
	r.served[ringer] = r.known[api.Pair{A: ringer, B: ringer}]
	for j := range r.n {
		if !slices.Contains(r.queue, j) && r.known[api.Pair{A: ringer, B: j}] == r.served[j]+1 {
			r.queue = append(slices.Clone(r.queue), j)
		}
	}
	if len(r.queue) > 0 {
		r.post(api.Call{From: ringer, To: r.queue[0], Token: true})
		r.queue = slices.Clone(r.queue[1:])
	}
	return api.OK
}

func (r *reference) Deliver(from, to int) api.Errno {
	if min(from, to) < 0 || max(from, to) >= r.n || from == to {
		return api.ErrArg
	}
	for at, c := range r.mail {
		if c.From != from || c.To != to {
			continue
		}
		r.mail = slices.Concat(r.mail[:at], r.mail[at+1:])
		if c.Token {
			r.token, r.doing[to] = to, "rope"
			return api.OK
		}
		about := api.Pair{A: to, B: from}
		if r.known[about] < c.No {
			r.known[about] = c.No
		}
		if r.token == to && r.doing[to] == "" && r.known[about] == r.served[from]+1 {
			r.post(api.Call{From: to, To: from, Token: true})
		}
		return api.OK
	}
	return api.ErrNone
}

func (r *reference) those(doing string) (all []int) {
	for i := range r.n {
		if r.doing[i] == doing {
			all = append(all, i)
		}
	}
	return all
}

func (r *reference) Inside() int {
	for _, i := range r.those("rope") {
		return i
	}
	return -1
}

func (r *reference) Holder() int { return r.token }

func (r *reference) Waiting() []int { return r.those("waits") }

func (r *reference) Queue() []int { return r.queue }

func (r *reference) Known(ringer int) (all []int) {
	for j := range r.n {
		if 0 <= ringer && ringer < r.n {
			all = append(all, r.known[api.Pair{A: ringer, B: j}])
		}
	}
	return all
}

func (r *reference) Served() (all []int) {
	for j := range r.n {
		all = append(all, r.served[j])
	}
	return all
}

func (r *reference) Flight() (all []api.Call) {
	for way := range r.n * r.n {
		for _, c := range r.mail {
			if c.From == way/r.n && c.To == way%r.n {
				all = append(all, c)
			}
		}
	}
	return all
}

func (r *reference) Sent() int { return r.sent }

func (r *reference) clone() *reference {
	c := newReference(r.n, r.token)
	for i, doing := range r.doing {
		c.doing[i] = doing
	}
	for about, number := range r.known {
		c.known[about] = number
	}
	for i, number := range r.served {
		c.served[i] = number
	}
	c.queue, c.mail, c.sent = slices.Clone(r.queue), slices.Clone(r.mail), r.sent
	return c
}

// view is all that there is to see of a tower.
func view(n int, x calls) string {
	s := fmt.Sprint(x.Inside(), x.Holder(), x.Waiting(), x.Queue(), x.Served(), x.Sent(), x.Flight())
	for i := -1; i <= n; i++ {
		s += fmt.Sprint(x.Known(i))
	}
	return s
}

// call is one of the calls that change a tower.
type call struct {
	kind string
	a, b int
}

func (c call) on(x calls) api.Errno {
	switch c.kind {
	case "want":
		return x.Want(c.a)
	case "leave":
		return x.Leave(c.a)
	}
	return x.Deliver(c.a, c.b)
}

// everyCall returns all calls with the ringers from low to high.
func everyCall(low, high int) (all []call) {
	for i := low; i <= high; i++ {
		all = append(all, call{"want", i, 0}, call{"leave", i, 0})
		for j := low; j <= high; j++ {
			all = append(all, call{"deliver", i, j})
		}
	}
	return all
}

// pair is a tower and the reference of it, with what is known of their past.
type pair struct {
	n, wants int
	tower    *rope.Tower
	ref      *reference
}

func newPair(t *testing.T, n, holder int) *pair {
	t.Helper()
	x, e := rope.New(n, holder)
	if x == nil || e != api.OK {
		t.Fatalf("New(%d, %d) = %v, %d", n, holder, x, e)
	}
	p := &pair{n: n, tower: x, ref: newReference(n, holder)}
	if got, want := view(n, x), view(n, p.ref); got != want {
		t.Fatalf("New(%d, %d): %s, want %s", n, holder, got, want)
	}
	return p
}

func (p *pair) clone() *pair {
	return &pair{n: p.n, wants: p.wants, tower: p.tower.Clone(), ref: p.ref.clone()}
}

// do makes a call on both, and says whether it returned OK.
func (p *pair) do(t *testing.T, c call) bool {
	t.Helper()
	before := view(p.n, p.ref)
	got, want := c.on(p.tower), c.on(p.ref)
	if got != want {
		t.Fatalf("%v = %d, want %d; before: %s", c, got, want, before)
	}
	now, right := view(p.n, p.tower), view(p.n, p.ref)
	if now != right || want != api.OK && now != before {
		t.Fatalf("%v = %d: %s, want %s; before: %s", c, got, now, right, before)
	}
	if c.kind == "want" && want == api.OK {
		p.wants++
	}
	return want == api.OK
}
