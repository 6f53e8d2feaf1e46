package purge

import (
	"math"
	"math/rand"
	"slices"

	"burnbag/api"
)

// from tells whether a number is from low to high.
func from(n, low, high int) bool {
	return n >= low && n <= high
}

// mayConf tells whether a configuration may be, by the words.
func mayConf(c api.Conf) bool {
	if !from(c.Levels, 1, 4) || !from(c.Threads, 1, 8) || !from(c.Slots, 2, 60) || !from(c.Limbo, 1, 40) || !from(c.Gens, 1, 1048576) || !from(c.Quota, 0, 60) {
		return false
	}
	for thread, level := range c.Of {
		if thread < c.Threads && !from(level, 0, c.Levels-1) || thread >= c.Threads && level != 0 {
			return false
		}
	}
	return true
}

// goesFrom is the threads that are above a level, by the words.
func goesFrom(c api.Conf, level int) []int {
	var l []int
	for thread, at := range c.Of {
		if mayConf(c) && thread < c.Threads && at > level {
			l = append(l, thread)
		}
	}
	return l
}

// split is a script's part that stays, and its part that goes, by the words.
func split(s api.Script, level int) (stays, goes api.Script) {
	gone := goesFrom(s.Conf, level)
	stays, goes = twin(s), twin(s)
	for thread := range s.Programs {
		if slices.Contains(gone, thread) {
			stays.Programs[thread] = nil
		} else {
			goes.Programs[thread] = nil
		}
	}
	stays.Entries = slices.DeleteFunc(stays.Entries, func(e api.Entry) bool { return slices.Contains(gone, e.Thread) })
	goes.Entries = slices.DeleteFunc(goes.Entries, func(e api.Entry) bool { return !slices.Contains(gone, e.Thread) })
	return stays, goes
}

// counted is the numbers of so many entries, as they count: none is missing, below 0, or below that of one ahead.
func counted(at []int, entries int) []int {
	var l []int
	for i := range entries {
		n := 0
		for _, m := range at[:min(i+1, len(at))] {
			n = max(n, m)
		}
		l = append(l, n)
	}
	return l
}

// wovenOf is what is woven, by the words: high's entries are put in one by one, the last one first.
func wovenOf(low, high api.Script, level int, at []int) api.Script {
	s, _ := split(low, level)
	if low.Conf != high.Conf {
		return s
	}
	_, goes := split(high, level)
	for _, thread := range goesFrom(low.Conf, level) {
		s.Programs[thread] = goes.Programs[thread]
	}
	n := len(s.Entries)
	places := counted(at, len(goes.Entries))
	for i, e := range slices.Backward(goes.Entries) {
		s.Entries = slices.Insert(s.Entries, min(places[i], n), e)
	}
	return s
}

// aheads is, of each of a script's entries that goes, how many that stay it is behind.
func aheads(s api.Script, level int) []int {
	l, n := []int{}, 0
	for _, e := range s.Entries {
		if slices.Contains(goesFrom(s.Conf, level), e.Thread) {
			l = append(l, n)
		} else {
			n++
		}
	}
	return l
}

// alike tells whether scripts are the same, thing by thing.
func alike(a, b api.Script) bool {
	if a.Conf != b.Conf || !slices.Equal(a.Entries, b.Entries) {
		return false
	}
	for thread, program := range a.Programs {
		if !slices.Equal(program, b.Programs[thread]) {
			return false
		}
	}
	return true
}

// twin is a script that is the same, and shares no memory with it.
func twin(s api.Script) api.Script {
	for thread, program := range s.Programs {
		s.Programs[thread] = slices.Clone(program)
	}
	s.Entries = slices.Clone(s.Entries)
	return s
}

// laid is a list within a longer one, which its capacity takes in.
func laid[T any](l []T, ahead, behind T) (whole, part []T) {
	whole = append(append([]T{ahead}, l...), behind, behind)
	return whole, whole[1 : 1+len(l)]
}

// laidScript is a script of which each list lies within a longer one, of what may not be, and a call that tells whether all of these are as they were.
func laidScript(s api.Script) (api.Script, func() bool) {
	programs, kept := [8][]api.Call{}, [8][]api.Call{}
	for thread, program := range s.Programs {
		programs[thread], s.Programs[thread] = laid(program, api.Call{Op: -1}, api.Call{Reg: 99})
		kept[thread] = slices.Clone(programs[thread])
	}
	entries, part := laid(s.Entries, api.Entry{Thread: -1}, api.Entry{What: 9})
	s.Entries = part
	was := slices.Clone(entries)
	return s, func() bool {
		for thread := range programs {
			if !slices.Equal(programs[thread], kept[thread]) {
				return false
			}
		}
		return slices.Equal(entries, was)
	}
}

// fill has all of a list's places be one thing, and those that lie behind its length.
func fill[T any](l []T, thing T) {
	l = l[:cap(l)]
	for i := range l {
		l[i] = thing
	}
}

// levels is levels that there may be, and such as are below and above.
func levels() []int {
	return []int{math.MinInt, math.MinInt + 1, -256, -2, -1, 0, 1, 2, 3, 4, 5, 7, 8, 256, math.MaxInt - 1, math.MaxInt}
}

// noThreads is threads that there never are.
func noThreads() []int {
	return []int{math.MinInt, -256, -8, -1, 8, 9, 256, 256 + 1, 1 << 32, math.MaxInt}
}

// threads is a configuration of so many levels, with threads at these.
func threads(levels int, of ...int) api.Conf {
	c := api.Conf{Levels: levels, Threads: len(of), Slots: 9, Limbo: 7, Gens: 1000, Quota: 5}
	copy(c.Of[:], of)
	return c
}

// confs is configurations of each number of levels and threads: where threads are few, with these at all levels.
func confs() []api.Conf {
	var l []api.Conf
	for n := 1; n <= 4; n++ {
		for size := 1; size <= 8; size++ {
			for first := range n {
				of := make([]int, size)
				for thread := range of {
					of[thread] = (first + thread) % n
				}
				l = append(l, threads(n, of...), threads(n, slices.Repeat([]int{first}, size)...))
				slices.Sort(of)
				l = append(l, threads(n, of...))
				slices.Reverse(of)
				l = append(l, threads(n, of...))
			}
		}
		for number := range n * n * n {
			l = append(l, threads(n, number%n, number/n%n, number/n/n))
		}
	}
	return l
}

// noConfs is configurations that may not be, each but the first one by one number alone.
func noConfs() []api.Conf {
	l := []api.Conf{{}}
	add := func(change func(c *api.Conf)) {
		c := threads(4, 0, 1, 2, 3)
		change(&c)
		l = append(l, c)
	}
	for _, n := range []int{math.MinInt, -1, 0, 3, 5, 256 + 4, math.MaxInt} {
		add(func(c *api.Conf) { c.Levels = n })
	}
	for _, n := range []int{math.MinInt, -1, 0, 3, 9, 256 + 4, math.MaxInt} {
		add(func(c *api.Conf) { c.Threads = n })
	}
	for _, n := range []int{math.MinInt, -1, 4, 256, math.MaxInt} {
		add(func(c *api.Conf) { c.Of[1] = n })
		add(func(c *api.Conf) { c.Of[7] = n })
	}
	add(func(c *api.Conf) { c.Of[4] = 1 })
	for _, n := range []int{math.MinInt, -1, 1, 61, 256 + 9, math.MaxInt} {
		add(func(c *api.Conf) { c.Slots = n })
	}
	for _, n := range []int{math.MinInt, -1, 0, 41, 256 + 9, math.MaxInt} {
		add(func(c *api.Conf) { c.Limbo = n })
	}
	for _, n := range []int{math.MinInt, -1, 0, 1<<20 + 1, 1<<24 + 9, math.MaxInt} {
		add(func(c *api.Conf) { c.Gens = n })
	}
	for _, n := range []int{math.MinInt, -1, 61, 256 + 9, math.MaxInt} {
		add(func(c *api.Conf) { c.Quota = n })
	}
	return l
}

// calls is so many calls, each told apart from the others, and from those of other threads. Most may not be.
func calls(n, thread int) []api.Call {
	var l []api.Call
	for i := range n {
		l = append(l, api.Call{Op: i, Level: thread, Reg: i - 7, Key: int64(i) - 20, Pair: api.Pair{A: uint64(i), B: uint64(thread) << 32}, Handle: ^uint64(i)})
	}
	return l
}

// filled is a script of a configuration, whether or not it may be: each thread has a program, and some entries, those that there aren't among them; each What is told apart from the others.
func filled(c api.Conf) api.Script {
	s := api.Script{Conf: c}
	for thread := range s.Programs {
		s.Programs[thread] = calls(1+(5*thread)%4, thread)
	}
	for round := range 3 {
		for thread := range 8 {
			s.Entries = append(s.Entries, api.Entry{Thread: (3*thread + round) % 8, What: len(s.Entries) - 4})
		}
		for _, thread := range noThreads() {
			s.Entries = append(s.Entries, api.Entry{Thread: thread, What: len(s.Entries) - 4})
		}
	}
	return s
}

// some is a script of five threads, of levels up to one below the highest, with a program of a thread that there isn't, and with such a one's entries.
func some() api.Script {
	s := api.Script{Conf: threads(4, 2, 0, 1, 0, 2)}
	for _, thread := range []int{0, 1, 2, 3, 4, 6} {
		s.Programs[thread] = calls(2+thread%3, thread)
	}
	for i, thread := range []int{0, 1, 2, 6, 3, 4, 0, 4, -1, 2, 1, 1, 2, 2, 0} {
		s.Entries = append(s.Entries, api.Entry{Thread: thread, What: i})
	}
	return s
}

// anyConf is a configuration that may be.
func anyConf(r *rand.Rand) api.Conf {
	c := api.Conf{Levels: 1 + r.Intn(4), Threads: 1 + r.Intn(8), Slots: 2 + r.Intn(59), Limbo: 1 + r.Intn(40), Gens: 1 + r.Intn(1<<20), Quota: r.Intn(61)}
	for thread := range c.Threads {
		c.Of[thread] = r.Intn(c.Levels)
	}
	return c
}

// anyEntry is an entry, mostly of a thread that there is.
func anyEntry(r *rand.Rand) api.Entry {
	thread := r.Intn(8)
	if r.Intn(16) == 0 {
		thread = noThreads()[r.Intn(len(noThreads()))]
	}
	return api.Entry{Thread: thread, What: r.Intn(7) - 1}
}

// anyLists is a script of a configuration, whose lists are any.
func anyLists(r *rand.Rand, c api.Conf) api.Script {
	s := api.Script{Conf: c}
	for thread := range s.Programs {
		if thread < c.Threads || r.Intn(4) == 0 {
			s.Programs[thread] = calls(r.Intn(4), thread+r.Intn(2))
		}
	}
	for range r.Intn(24) {
		s.Entries = append(s.Entries, anyEntry(r))
	}
	return s
}

// anyScript is a script, whose configuration mostly may be.
func anyScript(r *rand.Rand) api.Script {
	c := anyConf(r)
	if r.Intn(16) == 0 {
		c = noConfs()[r.Intn(len(noConfs()))]
	}
	return anyLists(r, c)
}

// anyNumbers is numbers for so many entries: too few, too many, or as many; from below 0 to beyond how many there are.
func anyNumbers(r *rand.Rand, entries int) []int {
	at := make([]int, r.Intn(entries+4))
	for i := range at {
		switch r.Intn(12) {
		case 0:
			at[i] = -1 - r.Intn(3)
		case 1:
			at[i] = []int{math.MinInt, math.MaxInt, 1 << 32, -1 << 32, 256, 60000}[r.Intn(6)]
		default:
			at[i] = r.Intn(entries + 3)
		}
	}
	if r.Intn(2) == 0 {
		slices.Sort(at)
	}
	return at
}

// anyLevel is a level.
func anyLevel(r *rand.Rand) int {
	if r.Intn(4) == 0 {
		return levels()[r.Intn(len(levels()))]
	}
	return r.Intn(4)
}
