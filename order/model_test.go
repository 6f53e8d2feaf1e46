package order

import (
	"math"
	"math/rand"
	"slices"

	"burnbag/api"
	"burnbag/hist"
	"burnbag/means"
)

// isAhead tells whether one oper is ahead of another one, by the words.
func isAhead(a, b api.Oper) bool {
	return a.To >= 0 && a.To < b.From
}

// mayBe tells whether an order may be, by going through all pairs of opers.
func mayBe(l []api.Oper, order []int) bool {
	where := map[int]int{}
	for i, place := range order {
		_, twice := where[place]
		if twice || place < 0 || place >= len(l) {
			return false
		}
		where[place] = i
	}
	for a := range l {
		at, in := where[a]
		if !in && l[a].To >= 0 {
			return false
		}
		for b := range l {
			bt, there := where[b]
			if a != b && there && isAhead(l[a], l[b]) && (!in || at > bt) {
				return false
			}
		}
	}
	return true
}

// goesOn is the state behind an oper, and whether it is legal.
func goesOn(s means.State, o api.Oper) (means.State, bool) {
	if o.To >= 0 {
		return s.Told(o.Thread, o.Call, o.Answer)
	}
	behind, _ := s.Does(o.Thread, o.Call)
	return behind, true
}

// explains tells whether an order explains opers, by the words.
func explains(f api.Conf, level int, l []api.Oper, order []int) bool {
	if !mayBe(l, order) {
		return false
	}
	s, legal := means.New(f, level), true
	for _, place := range order {
		if s, legal = goesOn(s, l[place]); !legal {
			return false
		}
	}
	return true
}

// anyExplains tells whether one of all orders that there are explains opers.
func anyExplains(f api.Conf, level int, l []api.Oper) bool {
	return slices.ContainsFunc(orders(len(l)), func(order []int) bool { return explains(f, level, l, order) })
}

// firstOf is the order that explains opers, begins as this one does, and is found if always the least place is tried first; without any notes of what was met.
func firstOf(s means.State, l []api.Oper, order []int) ([]int, bool) {
	if mayBe(l, order) {
		return order, true
	}
	for place, o := range l {
		waits := slices.Contains(order, place)
		for other := range l {
			waits = waits || other != place && !slices.Contains(order, other) && isAhead(l[other], o)
		}
		behind, legal := goesOn(s, o)
		if waits || !legal {
			continue
		}
		if found, is := firstOf(behind, l, append(slices.Clone(order), place)); is {
			return found, true
		}
	}
	return nil, false
}

// points is how many states there are to be met behind any order that may come to be, each with the opers that are done.
func points(f api.Conf, level int, l []api.Oper) int {
	type point struct {
		done int
		text string
	}
	all := map[point]bool{}
	var walk func(s means.State, order []int)
	walk = func(s means.State, order []int) {
		p := point{0, s.Text()}
		for _, place := range order {
			p.done |= 1 << place
		}
		if all[p] {
			return
		}
		all[p] = true
		for place, o := range l {
			waits := slices.Contains(order, place)
			for other := range l {
				waits = waits || other != place && !slices.Contains(order, other) && isAhead(l[other], o)
			}
			if behind, legal := goesOn(s, o); legal && !waits {
				walk(behind, append(slices.Clone(order), place))
			}
		}
	}
	walk(means.New(f, level), nil)
	return len(all)
}

// orders is all lists of places of a list of a length, none twice.
func orders(length int) [][]int {
	all := [][]int{nil}
	for i := 0; i < len(all); i++ {
		for place := range length {
			if !slices.Contains(all[i], place) {
				all = append(all, append(slices.Clone(all[i]), place))
			}
		}
	}
	return all
}

// rising is the places from 0 on.
func rising(many int) []int {
	var places []int
	for i := range many {
		places = append(places, i)
	}
	return places
}

// laid is a list within a longer one, which its capacity takes in.
func laid[T any](l []T, ahead, behind T) (whole, part []T) {
	whole = append(append([]T{ahead}, l...), behind, behind)
	return whole, whole[1 : 1+len(l)]
}

// threads is a configuration of so many levels, with threads at these.
func threads(levels int, of ...int) api.Conf {
	f := api.Conf{Levels: levels, Threads: len(of), Slots: 9, Limbo: 7, Gens: 1000, Quota: 5}
	copy(f.Of[:], of)
	return f
}

// noConfs is configurations that may not be, each but the first one by one number alone.
func noConfs() []api.Conf {
	l := []api.Conf{{}}
	add := func(change func(f *api.Conf)) {
		f := threads(4, 0, 1, 2, 3)
		change(&f)
		l = append(l, f)
	}
	for _, n := range []int{math.MinInt, -1, 0, 3, 5, math.MaxInt} {
		add(func(f *api.Conf) { f.Levels = n })
	}
	for _, n := range []int{math.MinInt, -1, 0, 3, 9, math.MaxInt} {
		add(func(f *api.Conf) { f.Threads = n })
	}
	for _, n := range []int{math.MinInt, -1, 4, math.MaxInt} {
		add(func(f *api.Conf) { f.Of[1] = n })
		add(func(f *api.Conf) { f.Of[7] = n })
	}
	for _, n := range []int{math.MinInt, -1, 1 << 21, math.MaxInt} {
		add(func(f *api.Conf) { f.Slots = n })
		add(func(f *api.Conf) { f.Limbo = n })
		add(func(f *api.Conf) { f.Gens = n })
		add(func(f *api.Conf) { f.Quota = n })
	}
	return l
}

// pair is a pair told apart from those of other numbers by each word.
func pair(n uint64) api.Pair {
	return api.Pair{A: n, B: n + 1000}
}

// Calls of each op.
func put(key int64, n uint64) api.Call   { return api.Call{Op: api.Put, Key: key, Pair: pair(n)} }
func get(key int64) api.Call             { return api.Call{Op: api.Get, Key: key} }
func del(key int64) api.Call             { return api.Call{Op: api.Del, Key: key} }
func store(key int64, n uint64) api.Call { return api.Call{Op: api.Store, Key: key, Pair: pair(n)} }
func fetch(key int64) api.Call           { return api.Call{Op: api.Fetch, Key: key} }
func drop(key int64) api.Call            { return api.Call{Op: api.Drop, Key: key} }
func push(n uint64) api.Call             { return api.Call{Op: api.Push, Pair: pair(n)} }
func pop() api.Call                      { return api.Call{Op: api.Pop} }
func peek() api.Call                     { return api.Call{Op: api.Peek} }
func made(n uint64) api.Call             { return api.Call{Op: api.New, Pair: pair(n)} }
func reads(h uint64) api.Call            { return api.Call{Op: api.Read, Handle: h} }
func frees(h uint64) api.Call            { return api.Call{Op: api.Free, Handle: h} }
func tend() api.Call                     { return api.Call{Op: api.Tend} }

// Answers.
func fine() api.Answer                { return api.Answer{} }
func code(e api.Errno) api.Answer     { return api.Answer{Err: e} }
func told(n uint64) api.Answer        { return api.Answer{Pair: pair(n)} }
func handed(h uint64) api.Answer      { return api.Answer{Handle: h} }
func stored(n int) api.Answer         { return api.Answer{N: n} }
func storedOver(key int64) api.Answer { return api.Answer{N: 2, Key: key} }
func tended(n int) api.Answer         { return api.Answer{N: n} }
func handle(level, slot, gen int) uint64 {
	return uint64(level)<<60 + uint64(gen)<<8 + uint64(slot)
}

// open stands for the answer of a call that wasn't answered.
type open struct{}

// turns is opers of one thread, one ahead of the other, each a call at a level and what it is answered.
func turns(thread, level int, both ...any) []api.Oper {
	var l []api.Oper
	for i := 0; i < len(both); i += 2 {
		o := api.Oper{Thread: thread, Call: both[i].(api.Call), From: i, To: -1}
		o.Call.Level = level
		if a, is := both[i+1].(api.Answer); is {
			o.Answer, o.To = a, i+1
		}
		l = append(l, o)
	}
	return l
}

// together is such opers, all of which begin ahead of the first answer.
func together(thread, level int, both ...any) []api.Oper {
	l := turns(thread, level, both...)
	for i := range l {
		l[i].From = i
		if l[i].To >= 0 {
			l[i].To = 2*len(l) - i
		}
	}
	return l
}

// behind is opers, and other ones all of which begin behind all answers of the first ones.
func behind(l, others []api.Oper) []api.Oper {
	last := 0
	for _, o := range l {
		last = max(last, o.To)
	}
	l = slices.Clone(l)
	for _, o := range others {
		o.From += last + 1
		if o.To >= 0 {
			o.To += last + 1
		}
		l = append(l, o)
	}
	return l
}

// repeated is so many calls with their answers, each told by its number.
func repeated(many int, both func(i int) []any) []any {
	var l []any
	for i := range many {
		l = append(l, both(i)...)
	}
	return l
}

// someSpans lays opers over each other by chance: some are ahead of others, and of some the answer is lost.
func someSpans(r *rand.Rand, l []api.Oper) {
	width := 1 + r.Intn(2*len(l)+2)
	for i := range l {
		l[i].From = r.Intn(2*len(l) + 1)
		l[i].To = l[i].From + 1 + r.Intn(width)
		if r.Intn(5) == 0 {
			l[i].To = -1 - r.Intn(3)
		}
	}
}

// someCall is a call at a level, of few keys, pairs and handles.
func someCall(r *rand.Rand, level int) api.Call {
	key, n := int64(r.Intn(3)), uint64(r.Intn(3))
	h := handle(level, 1, r.Intn(2))
	l := []api.Call{put(key, n), get(key), del(key), store(key, n), fetch(key), drop(key), push(n), pop(), peek(), made(n), reads(h), frees(h), tend()}
	c := l[r.Intn(len(l))]
	c.Level = level
	return c
}

// played is opers that are answered as the level is meant to be, done in any order, but for a few: those are told something besides, or something else.
func played(r *rand.Rand, f api.Conf, level, many int, next func() api.Call) []api.Oper {
	s := means.New(f, level)
	l := make([]api.Oper, many)
	for i := range l {
		l[i] = api.Oper{Thread: r.Intn(f.Threads), Call: next()}
	}
	for _, i := range r.Perm(many) {
		behind, a := s.Does(l[i].Thread, l[i].Call)
		switch r.Intn(20) {
		case 0:
			a = code(api.Errno(r.Intn(17)))
		case 1:
			a = told(uint64(r.Intn(4)))
		}
		if told, ok := s.Told(l[i].Thread, l[i].Call, a); ok {
			behind = told
		}
		l[i].Answer, s = a, behind
	}
	someSpans(r, l)
	return l
}

// simulated is the opers of a history of all threads of a level, each call of which is done at one time between its beginning and its answer; some are never answered, done or not.
func simulated(r *rand.Rand, f api.Conf, level, many int) []api.Oper {
	const out, within, done, lost = 0, 1, 2, 3
	s := means.New(f, level)
	var l []api.Event
	var at [api.MaxThreads]int
	var calls [api.MaxThreads]api.Call
	var answers [api.MaxThreads]api.Answer
	for begun := 0; begun < many; {
		thread := r.Intn(f.Threads)
		switch {
		case at[thread] == out:
			calls[thread] = someCall(r, level)
			l = append(l, api.Event{Thread: thread, Call: calls[thread]})
			at[thread] = within
			begun++
		case at[thread] != lost && thread > 0 && r.Intn(50) == 0:
			at[thread] = lost
		case at[thread] == within:
			s, answers[thread] = s.Does(thread, calls[thread])
			at[thread] = done
		case at[thread] == done:
			l = append(l, api.Event{Thread: thread, Back: true, Answer: answers[thread]})
			at[thread] = out
		}
	}
	return hist.Opers(l)
}
