package hist

import (
	"cmp"
	"iter"
	"slices"

	"burnbag/api"
)

// What happens to an oper, in the order in which it happens at one place.
const (
	begins = iota
	ends
)

// spot is where an oper begins, or ends, in a history.
type spot struct {
	place, what, oper int
}

// Of is the events of opers.
func Of(l []api.Oper) []api.Event {
	sorted := slices.SortedFunc(spots(l), inOrder)
	events := make([]api.Event, len(sorted))
	for i, s := range sorted {
		events[i] = event(l[s.oper], s.what)
	}
	return events
}

// spots tells where opers begin, and where they end.
func spots(l []api.Oper) iter.Seq[spot] {
	return func(yield func(spot) bool) {
		for oper, o := range l {
			if o.From < 0 {
				continue
			}
			if !yield(spot{o.From, begins, oper}) || answered(o) && !yield(spot{o.To, ends, oper}) {
				return
			}
		}
	}
}

// inOrder holds two spots against each other. No two are equal, so that any sort leads to the same events.
func inOrder(a, b spot) int {
	return cmp.Or(cmp.Compare(a.place, b.place), cmp.Compare(a.what, b.what), cmp.Compare(a.oper, b.oper))
}

// event is what happens to an oper.
func event(o api.Oper, what int) api.Event {
	if what == ends {
		return api.Event{Thread: o.Thread, Back: true, Answer: o.Answer}
	}
	return api.Event{Thread: o.Thread, Call: o.Call}
}
