package hist

import (
	"iter"

	"burnbag/api"
)

// none is the number of no oper.
const none = -1

// inTurn tells each event's place, and the number of the oper that it is of; none, if it may not be where it is: what it tells behind that means nothing.
func inTurn(l []api.Event) iter.Seq2[int, int] {
	return func(yield func(int, int) bool) {
		t := start()
		for place, e := range l {
			if !yield(place, t.next(e)) {
				return
			}
		}
	}
}

// turns is how far a history has come: which oper each thread is within, and how many have begun.
type turns struct {
	within [api.MaxThreads]int
	begun  int
}

// start is ahead of all events.
func start() turns {
	var t turns
	for thread := range t.within {
		t.within[thread] = none
	}
	return t
}

// next is the oper that an event is of; none, if it may not come next.
func (t *turns) next(e api.Event) int {
	if e.Thread < 0 || e.Thread >= api.MaxThreads {
		return none
	}
	if e.Back {
		return t.end(e)
	}
	return t.begin(e)
}

// begin is the oper that begins.
func (t *turns) begin(e api.Event) int {
	if e.Answer != (api.Answer{}) || t.within[e.Thread] != none || t.begun == api.MaxOpers {
		return none
	}
	which := t.begun
	t.begun++
	t.within[e.Thread] = which
	return which
}

// end is the oper that is answered.
func (t *turns) end(e api.Event) int {
	if e.Call != (api.Call{}) {
		return none
	}
	which := t.within[e.Thread]
	t.within[e.Thread] = none
	return which
}
