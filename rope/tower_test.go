package rope_test

import (
	"fmt"
	"math/rand"
	"slices"
	"testing"

	"bellpull/api"
	"bellpull/rope"
)

func TestExamples(t *testing.T) {
	x := newPair(t, 3, 0)
	for _, c := range []call{{"want", 1, 0}, {"deliver", 1, 0}, {"deliver", 0, 1}} {
		x.do(t, c)
	}
	if x.tower.Inside() != 1 || x.tower.Sent() != 3 {
		t.Errorf("example 1: inside %d, sent %d", x.tower.Inside(), x.tower.Sent())
	}
	y := newPair(t, 3, 0)
	if y.do(t, call{"want", 0, 0}); y.tower.Inside() != 0 || y.tower.Sent() != 0 {
		t.Errorf("example 2: inside %d, sent %d", y.tower.Inside(), y.tower.Sent())
	}
	for _, c := range []call{{"want", 2, 0}, {"deliver", 2, 0}, {"leave", 0, 0}} {
		y.do(t, c)
	}
	if f := y.tower.Flight(); len(f) == 0 || f[0] != (api.Call{From: 0, To: 2, Token: true}) {
		t.Errorf("example 2: flight %v", f)
	}
	z := newPair(t, 1, 0)
	for _, c := range []call{{"want", 0, 0}, {"leave", 0, 0}, {"want", 0, 0}} {
		z.do(t, c)
	}
	if z.tower.Inside() != 0 || z.tower.Sent() != 0 {
		t.Errorf("example 3: inside %d, sent %d", z.tower.Inside(), z.tower.Sent())
	}
}

// promised checks I1, I3, I4 and I6, and of I2 that nobody waits in vain.
func promised(t *testing.T, p *pair) {
	t.Helper()
	x := p.tower
	flight, served, waiting, queue := x.Flight(), x.Served(), x.Waiting(), x.Queue()
	tokens := 0
	for _, c := range flight {
		if c.Token {
			tokens++
		}
	}
	if (x.Holder() >= 0) != (tokens == 0) || tokens > 1 {
		t.Errorf("I1: holder %d, %d tokens on their way", x.Holder(), tokens)
	}
	if x.Inside() >= 0 && (x.Inside() != x.Holder() || slices.Contains(waiting, x.Inside())) {
		t.Errorf("I1: inside %d, holder %d, waiting %v", x.Inside(), x.Holder(), waiting)
	}
	if len(flight) == 0 && x.Inside() < 0 && len(waiting) > 0 {
		t.Errorf("I2: %v wait for nothing", waiting)
	}
	if x.Sent() > p.n*p.wants {
		t.Errorf("I3: %d sent for %d", x.Sent(), p.wants)
	}
	for j := range p.n {
		own := x.Known(j)[j]
		if served[j] > own || served[j] < own-1 {
			t.Errorf("I4: served %v, %d knows %v", served, j, x.Known(j))
		}
		for i := range p.n {
			if x.Known(i)[j] > own {
				t.Errorf("I4: %d knows %v, %d knows %v", i, x.Known(i), j, x.Known(j))
			}
		}
	}
	for at, i := range queue {
		if slices.Contains(queue[:at], i) || !slices.Contains(waiting, i) {
			t.Errorf("I6: queue %v, waiting %v", queue, waiting)
		}
	}
}

// Whatever is called, in whatever order: all states that can be reached while
// the ringers want the rope a few times.
func TestAllStates(t *testing.T) {
	for n, wants := range []int{0, 4, 5, 3, 2} {
		for holder := range n {
			start := newPair(t, n, holder)
			seen := map[string]bool{}
			for todo := []*pair{start}; len(todo) > 0 && !t.Failed(); {
				p := todo[len(todo)-1]
				todo = todo[:len(todo)-1]
				promised(t, p)
				for _, c := range everyCall(0, n-1) {
					next := p.clone()
					if !next.do(t, c) || next.wants > wants {
						continue
					}
					// Those that want it while they have the token leave no trace.
					if key := fmt.Sprint(next.wants, view(n, next.tower)); !seen[key] {
						seen[key] = true
						todo = append(todo, next)
					}
				}
			}
		}
	}
}

// random returns some call, most often one that returns OK.
func random(r *rand.Rand, p *pair, wanting float64) call {
	flight := p.ref.Flight()
	switch {
	case r.Float64() < 0.05:
		all := everyCall(-1, p.n)
		return all[r.Intn(len(all))]
	case r.Float64() < wanting:
		return call{"want", r.Intn(p.n), 0}
	case p.ref.Inside() >= 0 && r.Intn(3) == 0:
		return call{"leave", p.ref.Inside(), 0}
	case len(flight) > 0:
		c := flight[r.Intn(len(flight))]
		return call{"deliver", c.From, c.To}
	}
	return call{"leave", p.ref.Inside(), 0}
}

func TestRandomCalls(t *testing.T) {
	r := rand.New(rand.NewSource(9))
	for round := range 60 {
		n := 1 + round%api.MaxRingers
		p := newPair(t, n, r.Intn(n))
		wanting := []float64{0.05, 0.2, 0.5}[round%3]
		for range 400 {
			p.do(t, random(r, p, wanting))
			promised(t, p)
		}
	}
}

// settle lets whoever is at the rope leave, and delivers messages as long as
// there are some: each time the one that choose takes. It returns who has been
// at the rope.
func settle(t *testing.T, p *pair, choose func(flight []api.Call) int) (been []int) {
	t.Helper()
	limit := len(p.ref.Flight()) + p.n
	for range limit {
		if i := p.ref.Inside(); i >= 0 {
			been = append(been, i)
			p.do(t, call{"leave", i, 0})
		}
		flight := p.ref.Flight()
		if len(flight) == 0 {
			break
		}
		c := flight[choose(flight)]
		p.do(t, call{"deliver", c.From, c.To})
		promised(t, p)
	}
	if i := p.ref.Inside(); i >= 0 {
		been = append(been, i)
		p.do(t, call{"leave", i, 0})
	}
	return been
}

// orders are ways to choose a message: the first, the last, any one, the token
// as late as can be, a request as late as can be, and what goes to one ringer
// as late as can be.
func orders(r *rand.Rand, n int) []func(flight []api.Call) int {
	late := func(isLate func(c api.Call) bool) func(flight []api.Call) int {
		return func(flight []api.Call) int {
			return max(0, slices.IndexFunc(flight, func(c api.Call) bool { return !isLate(c) }))
		}
	}
	all := []func(flight []api.Call) int{
		func([]api.Call) int { return 0 },
		func(flight []api.Call) int { return len(flight) - 1 },
		func(flight []api.Call) int { return r.Intn(len(flight)) },
		late(func(c api.Call) bool { return c.Token }),
		late(func(c api.Call) bool { return !c.Token }),
	}
	for i := range n {
		all = append(all, late(func(c api.Call) bool { return c.To == i }), late(func(c api.Call) bool { return c.From == i }))
	}
	return all
}

// I2: everyone who waits gets the rope, in whatever order messages arrive, and
// then nothing is on its way.
func TestEveryoneGetsTheRope(t *testing.T) {
	r := rand.New(rand.NewSource(2))
	for round := range 150 {
		n := 1 + round%api.MaxRingers
		p := newPair(t, n, r.Intn(n))
		for range r.Intn(80) {
			p.do(t, random(r, p, 0.4))
		}
		for _, choose := range orders(r, n) {
			q := p.clone()
			been := settle(t, q, choose)
			for _, i := range p.ref.Waiting() {
				if !slices.Contains(been, i) {
					t.Fatalf("%d ringers: %v were waiting, %v at the rope", n, p.ref.Waiting(), been)
				}
			}
			x := q.tower
			if len(x.Flight()) > 0 || len(x.Waiting()) > 0 || len(x.Queue()) > 0 || x.Inside() >= 0 || x.Holder() < 0 {
				t.Fatalf("%d ringers, at last: %s", n, view(n, x))
			}
		}
	}
}

// I5: the holder gets the rope without a message, whoever it is, and also if
// the token came to it later.
func TestHolderAlone(t *testing.T) {
	for n := 1; n <= api.MaxRingers; n++ {
		for holder := range n {
			p := newPair(t, n, holder)
			for i := range n {
				last := (holder + i) % n
				p.do(t, call{"want", last, 0})
				settle(t, p, func([]api.Call) int { return 0 })
				sent := p.tower.Sent()
				for range 3 {
					if p.tower.Holder() != last || !p.do(t, call{"want", last, 0}) || p.tower.Inside() != last || p.tower.Sent() != sent {
						t.Fatalf("%d ringers, holder %d: %s", n, last, view(n, p.tower))
					}
					p.do(t, call{"leave", last, 0})
				}
			}
		}
	}
}

// A ringer asks for the rope often while what it sends to another one stays on
// its way: that one knows the last number at last.
func TestManyMessages(t *testing.T) {
	x, _ := rope.New(3, 0)
	const times = 100000
	for range times {
		x.Want(1)
		x.Deliver(1, 0)
		x.Deliver(0, 1)
		x.Leave(1)
		x.Want(0)
		x.Deliver(0, 1)
		x.Deliver(1, 0)
		x.Leave(0)
	}
	flight := x.Flight()
	if x.Sent() != 6*times || len(flight) != 2*times {
		t.Fatalf("sent %d, %d on their way", x.Sent(), len(flight))
	}
	for i, c := range flight {
		if c != (api.Call{From: i / times, To: 2, No: i%times + 1}) {
			t.Fatalf("message %d: %v", i, c)
		}
	}
	for i := range 2 * times {
		if e := x.Deliver(i%2, 2); e != api.OK || x.Known(2)[i%2] != i/2+1 {
			t.Fatalf("message %d: %d, %v", i, e, x.Known(2))
		}
	}
	if !slices.Equal(x.Served(), []int{times, times, 0}) || len(x.Flight()) != 0 || x.Holder() != 0 {
		t.Errorf("at last: %s", view(3, x))
	}
}
