package rope_test

import (
	"math/rand"
	"slices"
	"testing"

	"bellpull/api"
	"bellpull/probe"
	"bellpull/rope"
)

func TestNewRefused(t *testing.T) {
	for _, n := range probe.Outside(1, api.MaxRingers) {
		for _, holder := range append(probe.Outside(0, 5), 0, 1, n, n-1) {
			if x, e := rope.New(n, holder); x != nil || e != api.ErrArg {
				t.Errorf("New(%d, %d) = %v, %d", n, holder, x, e)
			}
		}
	}
	for n := 1; n <= api.MaxRingers; n++ {
		for _, holder := range probe.Outside(0, n-1) {
			if x, e := rope.New(n, holder); x != nil || e != api.ErrArg {
				t.Errorf("New(%d, %d) = %v, %d", n, holder, x, e)
			}
		}
		for holder := range n {
			newPair(t, n, holder)
		}
	}
}

// Ringers that are not there are refused before anything about a state, in all
// states: those of a tower with many calls behind it.
func TestRingersRefused(t *testing.T) {
	r := rand.New(rand.NewSource(3))
	for n := 1; n <= api.MaxRingers; n++ {
		p := newPair(t, n, 0)
		for range 100 {
			p.do(t, random(r, p, 0.3))
			for _, i := range probe.Outside(0, n-1) {
				refused := []call{{"want", i, 0}, {"leave", i, 0}, {"deliver", i, i}, {"deliver", i, 0}, {"deliver", n - 1, i}}
				for _, c := range refused {
					if e := c.on(p.tower); e != api.ErrArg {
						t.Errorf("%v = %d", c, e)
					}
				}
				if l := p.tower.Known(i); len(l) != 0 {
					t.Errorf("Known(%d) = %v", i, l)
				}
			}
			for i := range n {
				if e := p.tower.Deliver(i, i); e != api.ErrArg {
					t.Errorf("Deliver(%d, %d) = %d", i, i, e)
				}
			}
		}
		if got, want := view(n, p.tower), view(n, p.ref); got != want {
			t.Errorf("what was refused has changed %s to %s", want, got)
		}
	}
}

// What is not allowed in a state changes nothing.
func TestStatesRefused(t *testing.T) {
	p := newPair(t, 3, 0)
	steps := []struct {
		does call
		want api.Errno
	}{
		{call{"leave", 0, 0}, api.ErrNone},   // idle, with the token
		{call{"leave", 1, 0}, api.ErrNone},   // idle
		{call{"deliver", 1, 0}, api.ErrNone}, // nothing yet
		{call{"want", 1, 0}, api.OK},
		{call{"want", 1, 0}, api.ErrFull},    // waiting
		{call{"leave", 1, 0}, api.ErrNone},   // waiting
		{call{"deliver", 0, 1}, api.ErrNone}, // only in the other direction
		{call{"deliver", 1, 0}, api.OK},
		{call{"deliver", 1, 0}, api.ErrNone}, // not again
		{call{"want", 1, 0}, api.ErrFull},    // waiting, the token on its way
		{call{"deliver", 0, 1}, api.OK},
		{call{"want", 1, 0}, api.ErrFull},  // at the rope
		{call{"leave", 0, 0}, api.ErrNone}, // another one is at the rope
		{call{"leave", 1, 0}, api.OK},
		{call{"leave", 1, 0}, api.ErrNone}, // not again
	}
	for at, s := range steps {
		if e := s.does.on(p.tower.Clone()); e != s.want {
			t.Errorf("step %d: %v = %d, want %d", at, s.does, e, s.want)
		}
		p.do(t, s.does)
	}
}

// strange are towers that neither New nor Clone returned, the last one a copy
// of the fields of one that New returned.
func strange(made *rope.Tower) []*rope.Tower {
	zero, copied := rope.Tower{}, *made
	return []*rope.Tower{nil, {}, &zero, new(rope.Tower), &copied}
}

func TestStrangeTowers(t *testing.T) {
	r := rand.New(rand.NewSource(4))
	for n := 1; n <= api.MaxRingers; n++ {
		p := newPair(t, n, 0)
		for range 50 {
			p.do(t, random(r, p, 0.4))
			for kind, x := range strange(p.tower) {
				for _, c := range append(everyCall(-1, n), call{"want", -1 << 63, 0}, call{"deliver", 1<<63 - 1, -1 << 63}) {
					if e := c.on(x); e != api.ErrState {
						t.Errorf("kind %d: %v = %d", kind, c, e)
					}
				}
				if x.Inside() != -1 || x.Holder() != -1 || x.Sent() != 0 || x.Clone() != nil {
					t.Errorf("kind %d: inside %d, holder %d, sent %d, clone %v", kind, x.Inside(), x.Holder(), x.Sent(), x.Clone())
				}
				if len(x.Waiting())+len(x.Queue())+len(x.Served())+len(x.Flight()) != 0 {
					t.Errorf("kind %d: lists %v, %v, %v, %v", kind, x.Waiting(), x.Queue(), x.Served(), x.Flight())
				}
				for i := -1; i <= n; i++ {
					if l := x.Known(i); len(l) != 0 {
						t.Errorf("kind %d: Known(%d) = %v", kind, i, l)
					}
				}
			}
		}
		if got, want := view(n, p.tower), view(n, p.ref); got != want {
			t.Errorf("calls on other towers have changed %s to %s", want, got)
		}
	}
}

// I7: clones go their own ways, from many states on: what one of them adds to
// its queue or sends does not appear in another one.
func TestClones(t *testing.T) {
	r := rand.New(rand.NewSource(7))
	for round := range 60 {
		n := 2 + round%(api.MaxRingers-1)
		first := newPair(t, n, r.Intn(n))
		all := []*pair{first, first.clone(), first.clone()}
		for range 500 {
			at := r.Intn(3)
			all[at].do(t, random(r, all[at], 0.35))
			if r.Intn(8) == 0 {
				all[(at+1)%3] = all[at].clone()
			}
			for _, p := range all {
				if got, want := view(n, p.tower), view(n, p.ref); got != want {
					t.Fatalf("a clone or a call on another one: %s, want %s", got, want)
				}
			}
		}
	}
}

// A tower and its clone send different messages from 1 to 2, behind the same
// number of others: the one the token, the other a request.
func TestClonesSend(t *testing.T) {
	for others := 1; others <= 9; others++ {
		p := newPair(t, 3, 0)
		steps := func(p *pair, all ...call) {
			for _, c := range all {
				p.do(t, c)
			}
		}
		for range others {
			steps(p, call{"want", 0, 0}, call{"deliver", 0, 1}, call{"deliver", 1, 0}, call{"leave", 0, 0})
			steps(p, call{"want", 1, 0}, call{"deliver", 1, 0}, call{"deliver", 0, 1}, call{"leave", 1, 0})
		}
		steps(p, call{"want", 2, 0})
		q := p.clone()
		steps(p, call{"deliver", 2, 1})
		steps(q, call{"want", 0, 0}, call{"deliver", 0, 1}, call{"want", 1, 0})
		for _, x := range []*pair{p, q} {
			if got, want := view(3, x.tower), view(3, x.ref); got != want {
				t.Errorf("behind %d others: %s, want %s", others, got, want)
			}
		}
		if f := p.tower.Flight(); !slices.Contains(f, api.Call{From: 1, To: 2, Token: true}) {
			t.Errorf("behind %d others: %v", others, f)
		}
	}
}

// spoil overwrites a list and what lies behind its end.
func spoil[A any](list []A, other A) {
	list = list[:cap(list)]
	for i := range list {
		list[i] = other
	}
}

// Results are new memory: overwriting them changes neither the tower nor other
// results.
func TestResultsAreNew(t *testing.T) {
	r := rand.New(rand.NewSource(5))
	queues := 0
	for round := range 40 {
		n := 1 + round%api.MaxRingers
		p := newPair(t, n, r.Intn(n))
		for range 60 {
			p.do(t, random(r, p, 0.4))
			x := p.tower
			queues += len(x.Queue())
			lists := func() [][]int {
				all := [][]int{x.Waiting(), x.Queue(), x.Served()}
				for i := range n {
					all = append(all, x.Known(i))
				}
				return all
			}
			kept, flight := lists(), x.Flight()
			for _, list := range lists() {
				spoil(list, -77)
			}
			spoil(x.Flight(), api.Call{From: -77})
			if !slices.EqualFunc(kept, lists(), slices.Equal) || !slices.Equal(flight, x.Flight()) {
				t.Fatal("results share memory with one another")
			}
			if got, want := view(n, x), view(n, p.ref); got != want {
				t.Fatalf("overwriting results has changed %s to %s", want, got)
			}
		}
	}
	if queues == 0 {
		t.Error("no queue was tried")
	}
}

// R6: the same calls have the same results, whatever else was called.
func TestCallsDoNotMatterToEachOther(t *testing.T) {
	run := func(between func()) string {
		r := rand.New(rand.NewSource(6))
		p := newPair(t, 4, 2)
		s := ""
		for range 300 {
			p.do(t, random(r, p, 0.3))
			between()
			s += view(4, p.tower)
		}
		return s
	}
	other, _ := rope.New(4, 2)
	alone := run(func() {})
	among := run(func() {
		other.Want(1)
		other.Deliver(1, 2)
		other.Deliver(2, 1)
		other.Leave(1)
	})
	if alone != among {
		t.Error("calls on another tower matter")
	}
}
