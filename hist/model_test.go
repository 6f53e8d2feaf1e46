package hist

import (
	"math"
	"math/rand"
	"slices"

	"burnbag/api"
)

// mayBe tells whether a history may be, event by event: what each thread does is counted from the list's beginning on.
func mayBe(l []api.Event) bool {
	begun := 0
	for i, e := range l {
		if e.Thread < 0 || e.Thread > 7 {
			return false
		}
		ahead := 0
		for _, other := range l[:i] {
			if other.Thread == e.Thread {
				ahead++
			}
		}
		if e.Back != (ahead%2 == 1) {
			return false
		}
		if e.Back && e.Call != (api.Call{}) || !e.Back && e.Answer != (api.Answer{}) {
			return false
		}
		if !e.Back {
			begun++
		}
	}
	return begun <= 40
}

// opersOf is the opers of a history: to each beginning belongs what its thread does next.
func opersOf(l []api.Event) []api.Oper {
	if !mayBe(l) {
		return nil
	}
	var opers []api.Oper
	for i, e := range l {
		if e.Back {
			continue
		}
		o := api.Oper{Thread: e.Thread, Call: e.Call, From: i, To: -1}
		if n := slices.IndexFunc(l[i+1:], func(other api.Event) bool { return other.Thread == e.Thread }); n >= 0 {
			o.To = i + 1 + n
			o.Answer = l[o.To].Answer
		}
		opers = append(opers, o)
	}
	return opers
}

// eventsOf is the events of opers, place by place.
func eventsOf(l []api.Oper) []api.Event {
	var places []int
	for _, o := range l {
		places = append(places, o.From, o.To)
	}
	slices.Sort(places)
	var events []api.Event
	for _, place := range slices.Compact(places) {
		if place < 0 {
			continue
		}
		for _, o := range l {
			if o.From == place {
				events = append(events, api.Event{Thread: o.Thread, Call: o.Call})
			}
		}
		for _, o := range l {
			if o.To == place && o.From >= 0 {
				events = append(events, api.Event{Thread: o.Thread, Back: true, Answer: o.Answer})
			}
		}
	}
	return events
}

// someCall is a call with all its fields, told apart from those of other numbers by each of them.
func someCall(n int) api.Call {
	return api.Call{Op: n + 1, Level: n + 2, Key: int64(n) + 3, Pair: api.Pair{A: uint64(n) + 4, B: uint64(n) + 5}, Handle: uint64(n) + 6, Reg: n + 7}
}

// someAnswer is an answer with all its fields, told apart from those of other numbers by each of them.
func someAnswer(n int) api.Answer {
	return api.Answer{Err: api.Errno(n + 11), Pair: api.Pair{A: uint64(n) + 12, B: uint64(n) + 13}, Handle: uint64(n) + 14, N: n + 15, Key: int64(n) + 16}
}

// begin is a beginning.
func begin(thread, n int) api.Event {
	return api.Event{Thread: thread, Call: someCall(n)}
}

// back is an answer.
func back(thread, n int) api.Event {
	return api.Event{Thread: thread, Back: true, Answer: someAnswer(n)}
}

// events is a history without calls and answers: each thread begins, where it is within nothing, and else is answered.
func events(threads ...int) []api.Event {
	var l []api.Event
	within := map[int]int{}
	for _, thread := range threads {
		l = append(l, api.Event{Thread: thread, Back: within[thread] == 1})
		within[thread] = 1 - within[thread]
	}
	return l
}

// numbered is a history with calls and answers, all told apart.
func numbered(l []api.Event) []api.Event {
	own := slices.Clone(l)
	for i, e := range own {
		if e.Back {
			own[i] = back(e.Thread, 100*i)
		} else {
			own[i] = begin(e.Thread, 100*i)
		}
	}
	return own
}

// walk is a history of a length that may be, of threads by chance.
func walk(r *rand.Rand, length int) []api.Event {
	var threads []int
	within := map[int]int{}
	begun := 0
	some := 1 + r.Intn(8)
	for len(threads) < length {
		thread := (r.Intn(some) * 5) % 8
		if within[thread] == 0 && begun == 40 {
			// Whoever is within something may still be answered.
			thread = slices.IndexFunc([]int{0, 1, 2, 3, 4, 5, 6, 7}, func(t int) bool { return within[t] == 1 })
			if thread < 0 {
				break
			}
		}
		if within[thread] == 0 {
			begun++
		}
		within[thread] = 1 - within[thread]
		threads = append(threads, thread)
	}
	return numbered(events(threads...))
}

// ints is whole numbers at the ends of int, next to nought, and next to where fewer bits end.
func ints() []int {
	return []int{
		math.MinInt, math.MinInt + 1, math.MinInt + 7, -1 << 32, -1<<32 + 3, math.MinInt32, -256, -40, -8, -7, -2, -1,
		0, 1, 2, 3, 6, 7, 8, 9, 15, 16, 39, 40, 41, 64, 255, 256, 257,
		math.MaxInt32, 1 << 31, 1 << 32, 1<<32 + 3, 1<<63 - 8, math.MaxInt - 1, math.MaxInt,
	}
}

// words is words that aren't nought.
func words() []uint64 {
	return []uint64{1, 2, 7, 255, 256, 1 << 31, 1 << 32, 1 << 40, 1 << 62, 1 << 63, math.MaxUint64}
}

// bareAnswers is answers of which just one field isn't nought.
func bareAnswers() []api.Answer {
	var l []api.Answer
	for _, n := range ints() {
		if n != 0 {
			l = append(l, api.Answer{Err: api.Errno(n)}, api.Answer{N: n}, api.Answer{Key: int64(n)})
		}
	}
	for _, w := range words() {
		l = append(l, api.Answer{Pair: api.Pair{A: w}}, api.Answer{Pair: api.Pair{B: w}}, api.Answer{Handle: w})
	}
	return l
}

// bareCalls is calls of which just one field isn't nought.
func bareCalls() []api.Call {
	var l []api.Call
	for _, n := range ints() {
		if n != 0 {
			l = append(l, api.Call{Op: n}, api.Call{Level: n}, api.Call{Key: int64(n)}, api.Call{Reg: n})
		}
	}
	for _, w := range words() {
		l = append(l, api.Call{Pair: api.Pair{A: w}}, api.Call{Pair: api.Pair{B: w}}, api.Call{Handle: w})
	}
	return l
}

// laid is a list within a longer one, which its capacity takes in.
func laid[T any](l []T, ahead, behind T) (whole, part []T) {
	whole = append(append([]T{ahead}, l...), behind, behind)
	return whole, whole[1 : 1+len(l)]
}
