package share

import (
	"math"
	"math/rand"
	"slices"

	"burnbag/api"
)

// opsOf is the ops of a part; none, if there is no such part.
func opsOf(part int) []int {
	switch part {
	case api.Sessions:
		return []int{api.Put, api.Get, api.Del}
	case api.Cache:
		return []int{api.Store, api.Fetch, api.Drop}
	case api.Queue:
		return []int{api.Push, api.Pop, api.Peek}
	case api.Raw:
		return []int{api.New, api.Read, api.Free}
	}
	return nil
}

// shareOf is an oper's share by going through all there are; -1, if it is in none.
func shareOf(o api.Oper) int {
	n := 0
	for _, level := range []int{0, 1, 2, 3} {
		for _, part := range []int{api.Sessions, api.Cache, api.Queue, api.Raw} {
			if o.Call.Level == level && slices.Contains(opsOf(part), o.Call.Op) {
				return n
			}
			n++
		}
	}
	return -1
}

// kept is a list without what isn't wanted.
func kept(l []api.Oper, wanted func(o api.Oper) bool) []api.Oper {
	return slices.DeleteFunc(slices.Clone(l), func(o api.Oper) bool { return !wanted(o) })
}

// shared is a share of a list; none, if there is no such one.
func shared(l []api.Oper, level, part int) []api.Oper {
	return kept(l, func(o api.Oper) bool {
		return level >= 0 && level <= 3 && o.Call.Level == level && slices.Contains(opsOf(part), o.Call.Op)
	})
}

// upTo is the opers of threads up to a level, of a configuration that may be, by its levels of threads themselves.
func upTo(l []api.Oper, f api.Conf, level int) []api.Oper {
	return kept(l, func(o api.Oper) bool {
		for thread := 0; thread < f.Threads; thread++ {
			if o.Thread == thread && f.Of[thread] <= level {
				return true
			}
		}
		return false
	})
}

// oper is an oper of an op at a level, told apart from those of other numbers by each other field.
func oper(n, op, level int) api.Oper {
	return api.Oper{
		Thread: n % 8,
		Call:   api.Call{Op: op, Level: level, Key: int64(n) + 3, Pair: api.Pair{A: uint64(n) + 4, B: uint64(n) + 5}, Handle: uint64(n) + 6, Reg: n + 7},
		Answer: api.Answer{Err: api.Errno(n + 11), Pair: api.Pair{A: uint64(n) + 12, B: uint64(n) + 13}, Handle: uint64(n) + 14, N: n + 15, Key: int64(n) + 16},
		From:   3 * n,
		To:     3*n + 1,
	}
}

// others is what an oper may be besides its op and its level, each field alone up to its ends, and all at once.
func others() []api.Oper {
	l := []api.Oper{{}, {To: -1}, oper(1, 0, 0), oper(90, 0, 0), oper(-90, 0, 0)}
	for _, n := range ints() {
		l = append(l,
			api.Oper{Thread: n}, api.Oper{From: n}, api.Oper{To: n},
			api.Oper{Call: api.Call{Key: int64(n)}}, api.Oper{Call: api.Call{Pair: api.Pair{A: uint64(n)}}}, api.Oper{Call: api.Call{Pair: api.Pair{B: uint64(n)}}},
			api.Oper{Call: api.Call{Handle: uint64(n)}}, api.Oper{Call: api.Call{Reg: n}},
			api.Oper{Answer: api.Answer{Err: api.Errno(n)}}, api.Oper{Answer: api.Answer{Pair: api.Pair{A: uint64(n)}}}, api.Oper{Answer: api.Answer{Pair: api.Pair{B: uint64(n)}}},
			api.Oper{Answer: api.Answer{Handle: uint64(n)}}, api.Oper{Answer: api.Answer{N: n}}, api.Oper{Answer: api.Answer{Key: int64(n)}},
			api.Oper{Thread: n, Call: api.Call{Key: int64(n), Pair: api.Pair{A: uint64(n), B: uint64(n)}, Handle: uint64(n), Reg: n}, Answer: api.Answer{Err: api.Errno(n), Pair: api.Pair{A: uint64(n), B: uint64(n)}, Handle: uint64(n), N: n, Key: int64(n)}, From: n, To: n},
		)
	}
	return l
}

// ints is whole numbers at the ends of int, next to nought, next to where fewer bits end, and where four times a number runs over.
func ints() []int {
	return []int{
		math.MinInt, math.MinInt + 1, math.MinInt + 4, -1 << 62, -1<<62 + 1, -1 << 61, -1 << 32, -1<<32 + 1, math.MinInt32, -256, -13, -12, -8, -5, -4, -3, -2, -1,
		0, 1, 2, 3, 4, 5, 6, 7, 8, 9, 10, 11, 12, 13, 14, 15, 16, 17, 40, 255, 256, 257,
		math.MaxInt32, 1 << 31, 1 << 32, 1<<32 + 1, 1<<32 + 3, 1 << 61, 1 << 62, 1<<62 + 1, 1<<62 + 3, math.MaxInt - 3, math.MaxInt - 1, math.MaxInt,
	}
}

// noOps is numbers of ops that there aren't.
func noOps() []int {
	return slices.DeleteFunc(ints(), func(n int) bool { return n >= 0 && n <= 12 })
}

// noQuarters is numbers of levels, and of parts, that there aren't.
func noQuarters() []int {
	return slices.DeleteFunc(ints(), func(n int) bool { return n >= 0 && n <= 3 })
}

// everywhere is opers of all ops and of some that there aren't, at all levels and at some that there aren't, all told apart.
func everywhere() []api.Oper {
	var l []api.Oper
	for op := -2; op <= 14; op++ {
		for level := -2; level <= 5; level++ {
			l = append(l, oper(len(l), op, level))
		}
	}
	for _, op := range noOps() {
		for _, level := range noQuarters() {
			l = append(l, oper(len(l), op, level), oper(len(l), op, 0), oper(len(l), 0, level), oper(len(l), 12, level))
		}
	}
	return l
}

// some is a list of a length, of ops and levels by chance, most of which there are.
func some(r *rand.Rand, length int) []api.Oper {
	l := make([]api.Oper, length)
	for i := range l {
		l[i] = oper(r.Intn(1000), r.Intn(15)-1, r.Intn(6)-1)
		switch r.Intn(10) {
		case 0:
			l[i].Call.Op = ints()[r.Intn(len(ints()))]
		case 1:
			l[i].Call.Level = ints()[r.Intn(len(ints()))]
		case 2:
			l[i].Thread = ints()[r.Intn(len(ints()))]
		case 3:
			// Twice the same.
			l[i] = l[r.Intn(i+1)]
		}
	}
	return l
}

// threads is a configuration of so many levels, with threads at these.
func threads(levels int, of ...int) api.Conf {
	f := api.Conf{Levels: levels, Threads: len(of), Slots: 9, Limbo: 7, Gens: 1000, Quota: 5}
	copy(f.Of[:], of)
	return f
}

// confs is configurations that may be: with threads at one level, at some, and at each of four, in order and not.
func confs() []api.Conf {
	least, most := threads(4, 0, 1, 2, 3), threads(4, 3, 2, 1, 0)
	least.Slots, least.Limbo, least.Gens, least.Quota = 2, 1, 1, 0
	most.Slots, most.Limbo, most.Gens, most.Quota = 60, 40, 1<<20, 60
	return []api.Conf{
		threads(1, 0),
		threads(1, 0, 0, 0),
		threads(1, 0, 0, 0, 0, 0, 0, 0, 0),
		threads(4, 0, 0),
		threads(4, 1, 1, 1),
		threads(4, 2),
		threads(4, 3),
		threads(4, 3, 3, 3, 3, 3, 3, 3, 3),
		threads(2, 0, 1, 0),
		threads(2, 1, 0),
		threads(3, 0, 2),
		threads(3, 2, 0, 2, 1, 0),
		threads(4, 0, 1, 2, 3, 0, 1, 2, 3),
		threads(4, 3, 2, 1, 0, 0, 1, 2, 3),
		threads(4, 0, 0, 0, 0, 0, 0, 0, 3),
		threads(4, 3, 0, 0, 0, 0, 0, 0, 0),
		threads(4, 2, 3, 0, 1, 3, 0),
		least,
		most,
	}
}

// noConfs is configurations that may not be, each but the first one by one number alone.
func noConfs() []api.Conf {
	l := []api.Conf{{}}
	add := func(change func(f *api.Conf)) {
		f := threads(3, 0, 1, 2, 0)
		change(&f)
		l = append(l, f)
	}
	for _, n := range []int{math.MinInt, -1, 0, 2, 5, math.MaxInt} {
		add(func(f *api.Conf) { f.Levels = n })
	}
	for _, n := range []int{math.MinInt, -1, 0, 1, 2, 9, math.MaxInt} {
		add(func(f *api.Conf) { f.Threads = n })
	}
	for _, n := range []int{math.MinInt, -1, 3, 4, math.MaxInt} {
		add(func(f *api.Conf) { f.Of[0] = n })
		add(func(f *api.Conf) { f.Of[3] = n })
		add(func(f *api.Conf) { f.Of[7] = n })
	}
	add(func(f *api.Conf) { f.Of[4] = 1 })
	for _, n := range []int{math.MinInt, -1, 1 << 21, math.MaxInt} {
		add(func(f *api.Conf) { f.Slots = n })
		add(func(f *api.Conf) { f.Limbo = n })
		add(func(f *api.Conf) { f.Gens = n })
		add(func(f *api.Conf) { f.Quota = n })
	}
	add(func(f *api.Conf) { f.Slots = 1 })
	add(func(f *api.Conf) { f.Slots = 61 })
	add(func(f *api.Conf) { f.Limbo = 0 })
	add(func(f *api.Conf) { f.Limbo = 41 })
	add(func(f *api.Conf) { f.Gens = 0 })
	add(func(f *api.Conf) { f.Quota = 61 })
	return l
}

// laid is a list within a longer one, which its capacity takes in; what lies ahead, and behind, would be of share 0.
func laid(l []api.Oper) (whole, part []api.Oper) {
	whole = append(append([]api.Oper{oper(1, api.Put, 0)}, l...), oper(2, api.Put, 0), oper(3, api.Get, 0))
	return whole, whole[1 : 1+len(l)]
}
