package rope

import "bellpull/api"

// message is something that is on its way between two ringers.
type message interface {
	call(from, to int) api.Call
}

// request asks for the rope.
type request struct {
	number int
}

// passing is the token on its way. There is just one token, so the tower keeps
// what it holds, wherever it is.
type passing struct{}

func (r request) call(from, to int) api.Call { return api.Call{From: from, To: to, No: r.number} }

func (passing) call(from, to int) api.Call { return api.Call{From: from, To: to, Token: true} }

func (t *Tower) send(from, to int, m message) {
	t.flight[from][to] = append(t.flight[from][to], m)
	t.sent++
}

// ask sends the newest request of a ringer to all others.
func (t *Tower) ask(ringer int) {
	r := request{number: t.members[ringer].of[ringer]}
	for other := range t.members {
		if other != ringer {
			t.send(ringer, other, r)
		}
	}
}

// pass sends the token.
func (t *Tower) pass(from, to int) {
	t.holder = nobody
	t.send(from, to, passing{})
}

func (t *Tower) arrive(from, to int, m message) {
	receiver := &t.members[to]
	switch m := m.(type) {
	case request:
		receiver.raise(from, m.number)
		if t.holder == to && receiver.doing == idle && receiver.isNext(from, &t.token.numbers) {
			t.pass(to, from)
		}
	case passing:
		t.holder = to
		receiver.doing = ringing
	}
}
