package proof

import (
	"math"
	"math/rand"
	"slices"
	"testing"

	"burnbag/api"
	"burnbag/hist"
	"burnbag/means"
)

// isAhead tells whether one oper is ahead of another one, by the words.
func isAhead(a, b api.Oper) bool {
	return a.To >= 0 && a.To < b.From
}

// mayBe tells whether an order may be, by going through all pairs of opers.
func mayBe(l []api.Oper, order []int) bool {
	where := map[int]int{}
	for i, place := range order {
		_, twice := where[place]
		if twice || place < 0 || place >= len(l) {
			return false
		}
		where[place] = i
	}
	for a := range l {
		at, in := where[a]
		if !in && l[a].To >= 0 {
			return false
		}
		for b := range l {
			bt, there := where[b]
			if a != b && there && isAhead(l[a], l[b]) && (!in || at > bt) {
				return false
			}
		}
	}
	return true
}

// comesNext is what may come next, by going through all pairs of opers.
func comesNext(l []api.Oper, order []int) []int {
	var next []int
	for b := range l {
		waits := slices.Contains(order, b)
		for a := range l {
			waits = waits || a != b && !slices.Contains(order, a) && isAhead(l[a], l[b])
		}
		if !waits {
			next = append(next, b)
		}
	}
	return next
}

// goesTo is the state behind an order, from its first place on; if it isn't legal, false.
func goesTo(s means.State, l []api.Oper, order []int) (means.State, bool) {
	if len(order) == 0 {
		return s, true
	}
	if order[0] < 0 || order[0] >= len(l) {
		return s, false
	}
	o := l[order[0]]
	next, ok := s.Told(o.Thread, o.Call, o.Answer)
	if o.To < 0 {
		next, _ = s.Does(o.Thread, o.Call)
		ok = true
	}
	if !ok {
		return s, false
	}
	return goesTo(next, l, order[1:])
}

// queueGoes tells whether an order of opers of a queue is legal, and what waits behind it, by a list of pairs.
func queueGoes(l []api.Oper, order []int) ([]api.Pair, bool) {
	var waits []api.Pair
	for _, place := range order {
		o := l[place]
		var meant api.Answer
		switch {
		case o.Call.Op == api.Push:
			waits = append(waits, o.Call.Pair)
		case len(waits) == 0:
			meant.Err = api.ErrNone
		default:
			meant.Pair = waits[0]
			if o.Call.Op == api.Pop {
				waits = waits[1:]
			}
		}
		if o.To >= 0 && o.Answer != meant {
			return nil, false
		}
	}
	return waits, true
}

// tells is all that a state's readers tell, and its text.
type tells struct {
	sessions, cached []api.Row
	queued           []api.Pair
	raw              []uint64
	text             string
}

// read is what a state tells.
func read(s means.State) tells {
	return tells{s.Sessions(), s.Cached(), s.Queued(), s.Raw(), s.Text()}
}

// same tells whether two states tell the same.
func (a tells) same(b tells) bool {
	return slices.Equal(a.sessions, b.sessions) && slices.Equal(a.cached, b.cached) && slices.Equal(a.queued, b.queued) && slices.Equal(a.raw, b.raw) && a.text == b.text
}

// answeredSo is an oper of a call that was answered.
func answeredSo(thread int, c api.Call, a api.Answer, from, to int) api.Oper {
	return api.Oper{Thread: thread, Call: c, Answer: a, From: from, To: to}
}

// unanswered is an oper of a call that wasn't.
func unanswered(thread int, c api.Call, from int) api.Oper {
	return api.Oper{Thread: thread, Call: c, From: from, To: -1}
}

// span is an oper by its places alone: a Put by thread 0.
func span(from, to int) api.Oper {
	return api.Oper{From: from, To: to}
}

// spans is opers by their places alone.
func spans(places ...[2]int) []api.Oper {
	var l []api.Oper
	for _, p := range places {
		l = append(l, span(p[0], p[1]))
	}
	return l
}

// inRow is opers each of which is ahead of the next.
func inRow(many int) []api.Oper {
	var l []api.Oper
	for i := range many {
		l = append(l, span(2*i, 2*i+1))
	}
	return l
}

// overlapping is opers all of which begin ahead of the first answer.
func overlapping(many int) []api.Oper {
	var l []api.Oper
	for i := range many {
		l = append(l, span(i, 2*many-i))
	}
	return l
}

// unansweredRow is opers none of which is answered.
func unansweredRow(many int) []api.Oper {
	var l []api.Oper
	for i := range many {
		l = append(l, span(i, -1))
	}
	return l
}

// rising is the places from 0 on.
func rising(many int) []int {
	var places []int
	for i := range many {
		places = append(places, i)
	}
	return places
}

// noPlaces is places that a list of a length hasn't.
func noPlaces(length int) []int {
	return []int{-1, length, -2, length + 1, -length - 1, 2*length + 1, 1 << 32, -1 << 32, math.MaxInt, math.MaxInt - 1, math.MinInt, math.MinInt + 1, math.MaxInt32 + 1, math.MinInt32}
}

// sequences is all lists of these numbers up to a length, the empty one among them.
func sequences(of []int, length int) [][]int {
	all := [][]int{nil}
	last := all
	for range length {
		var longer [][]int
		for _, s := range last {
			for _, n := range of {
				longer = append(longer, append(slices.Clone(s), n))
			}
		}
		all, last = append(all, longer...), longer
	}
	return all
}

// orders is all lists of places of a list of a length, none twice.
func orders(length int) [][]int {
	return slices.DeleteFunc(sequences(rising(length), length), func(order []int) bool {
		sorted := slices.Clone(order)
		slices.Sort(sorted)
		return len(slices.Compact(sorted)) < len(order)
	})
}

// someSpans is opers that are answered behind their beginnings, or not at all, by chance.
func someSpans(r *rand.Rand, many int) []api.Oper {
	width := 1 + r.Intn(2*many+2)
	l := make([]api.Oper, many)
	for i := range l {
		from := r.Intn(2*many + 1)
		l[i] = span(from, from+1+r.Intn(width))
		if r.Intn(5) == 0 {
			l[i].To = -1 - r.Intn(3)
		}
	}
	return l
}

// anySpans is opers with any places, also such as are answered ahead of their beginnings.
func anySpans(r *rand.Rand, many int) []api.Oper {
	ends := []int{math.MinInt, -1, 0, 1, math.MaxInt - 1, math.MaxInt}
	place := func() int {
		if r.Intn(8) == 0 {
			return ends[r.Intn(len(ends))]
		}
		return r.Intn(2*many+2) - 1
	}
	l := make([]api.Oper, many)
	for i := range l {
		l[i] = span(place(), place())
	}
	return l
}

// someOrder is a list of places by chance: most often none of them twice, and sometimes one that the list hasn't.
func someOrder(r *rand.Rand, length int) []int {
	order := r.Perm(length)
	if r.Intn(3) == 0 {
		order = order[:r.Intn(length+1)]
	}
	if r.Intn(8) == 0 {
		no := noPlaces(length)
		order = slices.Insert(order, r.Intn(len(order)+1), no[r.Intn(len(no))])
	}
	if r.Intn(8) == 0 && len(order) > 0 {
		order = slices.Insert(order, r.Intn(len(order)+1), order[r.Intn(len(order))])
	}
	return order
}

// walk is the opers of a history by chance, of up to eight threads, in which each thread begins and is answered in turn.
func walk(r *rand.Rand, many int) []api.Oper {
	var l []api.Event
	within := map[int]int{}
	some := 1 + r.Intn(8)
	for begun := 0; begun < many; {
		thread := r.Intn(some)
		if within[thread] == 0 {
			begun++
		}
		l = append(l, api.Event{Thread: thread, Back: within[thread] == 1})
		within[thread] = 1 - within[thread]
	}
	return hist.Opers(l)
}

// laid is a list within a longer one, which its capacity takes in.
func laid[T any](l []T, ahead, behind T) (whole, part []T) {
	whole = append(append([]T{ahead}, l...), behind, behind)
	return whole, whole[1 : 1+len(l)]
}

// threads is a configuration of so many levels, with threads at these.
func threads(levels int, of ...int) api.Conf {
	f := api.Conf{Levels: levels, Threads: len(of), Slots: 9, Limbo: 7, Gens: 1000, Quota: 5}
	copy(f.Of[:], of)
	return f
}

// noConfs is configurations that may not be, each but the first one by one number alone.
func noConfs() []api.Conf {
	l := []api.Conf{{}}
	add := func(change func(f *api.Conf)) {
		f := threads(4, 0, 1, 2, 3)
		change(&f)
		l = append(l, f)
	}
	for _, n := range []int{math.MinInt, -1, 0, 3, 5, math.MaxInt} {
		add(func(f *api.Conf) { f.Levels = n })
	}
	for _, n := range []int{math.MinInt, -1, 0, 3, 9, math.MaxInt} {
		add(func(f *api.Conf) { f.Threads = n })
	}
	for _, n := range []int{math.MinInt, -1, 4, math.MaxInt} {
		add(func(f *api.Conf) { f.Of[1] = n })
		add(func(f *api.Conf) { f.Of[7] = n })
	}
	for _, n := range []int{math.MinInt, -1, 1 << 21, math.MaxInt} {
		add(func(f *api.Conf) { f.Slots = n })
		add(func(f *api.Conf) { f.Limbo = n })
		add(func(f *api.Conf) { f.Gens = n })
		add(func(f *api.Conf) { f.Quota = n })
	}
	return l
}

// pair is a pair told apart from those of other numbers by each word.
func pair(n uint64) api.Pair {
	return api.Pair{A: n, B: n + 1000}
}

// Calls of each op.
func put(key int64, n uint64) api.Call   { return api.Call{Op: api.Put, Key: key, Pair: pair(n)} }
func get(key int64) api.Call             { return api.Call{Op: api.Get, Key: key} }
func del(key int64) api.Call             { return api.Call{Op: api.Del, Key: key} }
func store(key int64, n uint64) api.Call { return api.Call{Op: api.Store, Key: key, Pair: pair(n)} }
func fetch(key int64) api.Call           { return api.Call{Op: api.Fetch, Key: key} }
func drop(key int64) api.Call            { return api.Call{Op: api.Drop, Key: key} }
func push(n uint64) api.Call             { return api.Call{Op: api.Push, Pair: pair(n)} }
func pop() api.Call                      { return api.Call{Op: api.Pop} }
func peek() api.Call                     { return api.Call{Op: api.Peek} }
func made(n uint64) api.Call             { return api.Call{Op: api.New, Pair: pair(n)} }
func reads(h uint64) api.Call            { return api.Call{Op: api.Read, Handle: h} }
func frees(h uint64) api.Call            { return api.Call{Op: api.Free, Handle: h} }
func tend() api.Call                     { return api.Call{Op: api.Tend} }

// Answers.
func fine() api.Answer                { return api.Answer{} }
func code(e api.Errno) api.Answer     { return api.Answer{Err: e} }
func told(n uint64) api.Answer        { return api.Answer{Pair: pair(n)} }
func handed(h uint64) api.Answer      { return api.Answer{Handle: h} }
func stored(n int) api.Answer         { return api.Answer{N: n} }
func storedOver(key int64) api.Answer { return api.Answer{N: 2, Key: key} }
func row(key int64, n uint64) api.Row { return api.Row{Key: key, Pair: pair(n)} }
func tended(n int) api.Answer         { return api.Answer{N: n} }
func handle(level, slot, gen int) uint64 {
	return uint64(level)<<60 + uint64(gen)<<8 + uint64(slot)
}

// turns is opers of one thread, one ahead of the other, each a call at a level and what it is answered.
func turns(thread, level int, both ...any) []api.Oper {
	var l []api.Oper
	for i := 0; i < len(both); i += 2 {
		c := both[i].(api.Call)
		c.Level = level
		l = append(l, answeredSo(thread, c, both[i+1].(api.Answer), i, i+1))
	}
	return l
}

// filled is a state of a level in which there is something of each part, by a thread of the level.
func filled(t *testing.T, f api.Conf, thread, level int) means.State {
	t.Helper()
	s := means.New(f, level)
	for _, c := range []api.Call{put(5, 1), put(-7, 2), store(4, 3), store(5, 4), push(5), push(6), made(7), made(8)} {
		c.Level = level
		next, a := s.Does(thread, c)
		if a.Err != api.OK {
			t.Fatalf("%+v is answered %v", c, a.Err)
		}
		s = next
	}
	return s
}
