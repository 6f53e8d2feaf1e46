package script

import (
	"encoding/binary"
	"math"
	"math/rand"
	"slices"

	"burnbag/api"
)

// from tells whether a number is from low to high.
func from(n, low, high int) bool {
	return n >= low && n <= high
}

// mayConf tells whether a configuration may be, by the words.
func mayConf(c api.Conf) bool {
	if !from(c.Levels, 1, 4) || !from(c.Threads, 1, 8) || !from(c.Slots, 2, 60) || !from(c.Limbo, 1, 40) || !from(c.Gens, 1, 1048576) || !from(c.Quota, 0, 60) {
		return false
	}
	for thread, level := range c.Of {
		if thread < c.Threads && !from(level, 0, c.Levels-1) || thread >= c.Threads && level != 0 {
			return false
		}
	}
	return true
}

// mayCall tells whether a call may be, by the words.
func mayCall(c api.Call) bool {
	return from(c.Op, 0, 12) && from(c.Level, 0, 3) && from(c.Reg, 0, 40)
}

// applies tells which codes apply to a script up to a level, by the words.
func applies(s api.Script, level int) map[api.Errno]int {
	codes := map[api.Errno]int{}
	if !mayConf(s.Conf) {
		codes[api.ErrRange]++
		return codes
	}
	for thread, program := range s.Programs {
		switch {
		case thread >= s.Conf.Threads && len(program) != 0:
			codes[api.ErrArg]++
		case thread < s.Conf.Threads && s.Conf.Of[thread] <= level:
			if len(program) > 40 {
				codes[api.ErrLong]++
			}
			if slices.ContainsFunc(program, func(c api.Call) bool { return !mayCall(c) }) {
				codes[api.ErrBad]++
			}
		}
	}
	many := 0
	for _, e := range s.Entries {
		if !from(e.Thread, 0, s.Conf.Threads-1) {
			codes[api.ErrArg]++
		} else if s.Conf.Of[e.Thread] <= level {
			many++
			if !from(e.What, 0, 3) {
				codes[api.ErrBad]++
			}
		}
	}
	if many > 60000 {
		codes[api.ErrLong]++
	}
	return codes
}

// order is the order in which Right tells codes.
func order() []api.Errno {
	return []api.Errno{api.ErrRange, api.ErrArg, api.ErrBad, api.ErrLong}
}

// rightness is the code that Right tells of a script.
func rightness(s api.Script, level int) api.Errno {
	codes := applies(s, level)
	for _, code := range order() {
		if codes[code] > 0 {
			return code
		}
	}
	return api.OK
}

// topOf is the highest level up to which a script is right.
func topOf(s api.Script) int {
	for level := 3; level >= 0; level-- {
		if mayConf(s.Conf) && level < s.Conf.Levels && rightness(s, level) == api.OK {
			return level
		}
	}
	return -1
}

// bytesOf is the bytes of a script that is right.
func bytesOf(s api.Script) []byte {
	f := s.Conf
	b := []byte{byte(f.Levels), byte(f.Threads)}
	for _, level := range f.Of {
		b = append(b, byte(level))
	}
	b = append(b, byte(f.Slots), byte(f.Limbo), byte(f.Gens%256), byte(f.Gens/256%256), byte(f.Gens/65536), byte(f.Quota))
	for thread := 0; thread < f.Threads; thread++ {
		b = append(b, byte(len(s.Programs[thread])))
		for _, c := range s.Programs[thread] {
			b = append(b, byte(c.Op), byte(c.Level), byte(c.Reg))
			b = binary.LittleEndian.AppendUint64(b, uint64(c.Key))
			b = binary.LittleEndian.AppendUint64(b, c.Pair.A)
			b = binary.LittleEndian.AppendUint64(b, c.Pair.B)
			b = binary.LittleEndian.AppendUint64(b, c.Handle)
		}
	}
	for _, e := range s.Entries {
		b = append(b, byte(e.Thread+8*e.What))
	}
	return b
}

// taken is the script whose bytes these are, or the code that comes up first.
func taken(b []byte) (api.Script, api.Errno) {
	if len(b) < 16 {
		return api.Script{}, api.ErrEnd
	}
	at := func(i int) int { return int(b[i]) }
	f := api.Conf{Levels: at(0), Threads: at(1), Slots: at(10), Limbo: at(11), Gens: at(12) + 256*at(13) + 65536*at(14), Quota: at(15)}
	for thread := range f.Of {
		f.Of[thread] = at(2 + thread)
	}
	if !mayConf(f) {
		return api.Script{}, api.ErrRange
	}
	s := api.Script{Conf: f}
	b = b[16:]
	for thread := 0; thread < f.Threads; thread++ {
		if len(b) == 0 {
			return api.Script{}, api.ErrEnd
		}
		size := at(0)
		b = b[1:]
		if size > 40 {
			return api.Script{}, api.ErrLong
		}
		for ; size > 0; size-- {
			if len(b) < 35 {
				return api.Script{}, api.ErrEnd
			}
			word := func(i int) uint64 { return binary.LittleEndian.Uint64(b[3+8*i:]) }
			c := api.Call{Op: at(0), Level: at(1), Reg: at(2), Key: int64(word(0)), Pair: api.Pair{A: word(1), B: word(2)}, Handle: word(3)}
			if !mayCall(c) {
				return api.Script{}, api.ErrBad
			}
			s.Programs[thread] = append(s.Programs[thread], c)
			b = b[35:]
		}
	}
	for i := range b {
		switch {
		case i == 60000:
			return api.Script{}, api.ErrLong
		case at(i) > 31 || at(i)%8 >= f.Threads:
			return api.Script{}, api.ErrForm
		}
		s.Entries = append(s.Entries, api.Entry{Thread: at(i) % 8, What: at(i) / 8})
	}
	return s, api.OK
}

// alike tells whether scripts are the same, thing by thing.
func alike(a, b api.Script) bool {
	if a.Conf != b.Conf || len(a.Entries) != len(b.Entries) {
		return false
	}
	for i, e := range a.Entries {
		if b.Entries[i] != e {
			return false
		}
	}
	for thread, program := range a.Programs {
		if len(b.Programs[thread]) != len(program) {
			return false
		}
		for i, c := range program {
			if b.Programs[thread][i] != c {
				return false
			}
		}
	}
	return true
}

// twin is a script that is the same, and shares no memory with it.
func twin(s api.Script) api.Script {
	for thread, program := range s.Programs {
		s.Programs[thread] = slices.Clone(program)
	}
	s.Entries = slices.Clone(s.Entries)
	return s
}

// laid is a list within a longer one, which its capacity takes in.
func laid[T any](l []T, ahead, behind T) (whole, part []T) {
	whole = append(append([]T{ahead}, l...), behind, behind)
	return whole, whole[1 : 1+len(l)]
}

// laidScript is a script of which each list lies within a longer one, of what may not be, and a call that tells whether all of these are as they were.
func laidScript(s api.Script) (api.Script, func() bool) {
	programs, kept := [8][]api.Call{}, [8][]api.Call{}
	for thread, program := range s.Programs {
		programs[thread], s.Programs[thread] = laid(program, api.Call{Op: -1}, api.Call{Reg: 99})
		kept[thread] = slices.Clone(programs[thread])
	}
	entries, part := laid(s.Entries, api.Entry{Thread: -1}, api.Entry{What: 9})
	s.Entries = part
	was := slices.Clone(entries)
	return s, func() bool {
		for thread := range programs {
			if !slices.Equal(programs[thread], kept[thread]) {
				return false
			}
		}
		return slices.Equal(entries, was)
	}
}

// threads is a configuration of so many levels, with threads at these.
func threads(levels int, of ...int) api.Conf {
	f := api.Conf{Levels: levels, Threads: len(of), Slots: 9, Limbo: 7, Gens: 1000, Quota: 5}
	copy(f.Of[:], of)
	return f
}

// noConfs is configurations that may not be, each but the first one by one number alone.
func noConfs() []api.Conf {
	l := []api.Conf{{}}
	add := func(change func(f *api.Conf)) {
		f := threads(4, 0, 1, 2, 3)
		change(&f)
		l = append(l, f)
	}
	for _, n := range []int{math.MinInt, -1, 0, 3, 5, 256 + 4, math.MaxInt} {
		add(func(f *api.Conf) { f.Levels = n })
	}
	for _, n := range []int{math.MinInt, -1, 0, 3, 9, 256 + 4, math.MaxInt} {
		add(func(f *api.Conf) { f.Threads = n })
	}
	for _, n := range []int{math.MinInt, -1, 4, 256, math.MaxInt} {
		add(func(f *api.Conf) { f.Of[1] = n })
		add(func(f *api.Conf) { f.Of[7] = n })
	}
	add(func(f *api.Conf) { f.Of[4] = 1 })
	for _, n := range []int{math.MinInt, -1, 1, 61, 256 + 9, math.MaxInt} {
		add(func(f *api.Conf) { f.Slots = n })
	}
	for _, n := range []int{math.MinInt, -1, 0, 41, 256 + 9, math.MaxInt} {
		add(func(f *api.Conf) { f.Limbo = n })
	}
	for _, n := range []int{math.MinInt, -1, 0, 1<<20 + 1, 1<<24 + 9, math.MaxInt} {
		add(func(f *api.Conf) { f.Gens = n })
	}
	for _, n := range []int{math.MinInt, -1, 61, 256 + 9, math.MaxInt} {
		add(func(f *api.Conf) { f.Quota = n })
	}
	return l
}

// noCalls is calls that may not be, each by one number alone.
func noCalls() []api.Call {
	var l []api.Call
	for _, n := range []int{math.MinInt, -1, 256, math.MaxInt} {
		l = append(l, api.Call{Op: n}, api.Call{Level: n}, api.Call{Reg: n})
	}
	return append(l, api.Call{Op: 13}, api.Call{Level: 4}, api.Call{Reg: 41})
}

// edges is calls that may be, with numbers at the ends of what they may be.
func edges() []api.Call {
	return []api.Call{
		{},
		{Op: 12, Level: 3, Reg: 40, Key: -1, Pair: api.Pair{A: math.MaxUint64, B: math.MaxUint64}, Handle: math.MaxUint64},
		{Op: 10, Level: 1, Reg: 2, Key: 0x0102030405060708, Pair: api.Pair{A: 0x1112131415161718, B: 0x2122232425262728}, Handle: 0x3132333435363738},
		{Key: math.MinInt64, Pair: api.Pair{A: 1 << 63, B: 1}, Handle: 1 << 63},
		{Key: math.MaxInt64, Pair: api.Pair{A: 1, B: 1 << 63}, Handle: 1},
	}
}

// calls is so many calls that may be, each told apart from the others.
func calls(n int) []api.Call {
	var l []api.Call
	for i := range n {
		l = append(l, api.Call{Op: i % 13, Level: i % 4, Reg: i % 41, Key: int64(i) - 20, Pair: api.Pair{A: uint64(i), B: uint64(i) << 32}, Handle: ^uint64(i)})
	}
	return l
}

// entries is so many entries of a thread.
func entries(n, thread, what int) []api.Entry {
	return slices.Repeat([]api.Entry{{Thread: thread, What: what}}, n)
}

// some is a script of five threads, of all levels, which is right.
func some() api.Script {
	s := api.Script{Conf: threads(4, 2, 0, 1, 0, 3)}
	for thread := range 5 {
		s.Programs[thread] = calls(4 + thread)
		for what := range 4 {
			s.Entries = append(s.Entries, api.Entry{Thread: (thread + what) % 5, What: what})
		}
	}
	return s
}

// anyConf is a configuration that may be.
func anyConf(r *rand.Rand) api.Conf {
	f := api.Conf{Levels: 1 + r.Intn(4), Threads: 1 + r.Intn(8), Slots: 2 + r.Intn(59), Limbo: 1 + r.Intn(40), Gens: 1 + r.Intn(1<<20), Quota: r.Intn(61)}
	for thread := range f.Threads {
		f.Of[thread] = r.Intn(f.Levels)
	}
	return f
}

// anyCall is a call that may be.
func anyCall(r *rand.Rand) api.Call {
	if r.Intn(4) == 0 {
		return edges()[r.Intn(5)]
	}
	return api.Call{Op: r.Intn(13), Level: r.Intn(4), Reg: r.Intn(41), Key: int64(r.Uint64()), Pair: api.Pair{A: r.Uint64(), B: r.Uint64()}, Handle: r.Uint64()}
}

// anyScript is a script that is right.
func anyScript(r *rand.Rand) api.Script {
	s := api.Script{Conf: anyConf(r)}
	for thread := range s.Conf.Threads {
		size := r.Intn(5)
		if r.Intn(20) == 0 {
			size = 40
		}
		for range size {
			s.Programs[thread] = append(s.Programs[thread], anyCall(r))
		}
	}
	for range r.Intn(30) {
		s.Entries = append(s.Entries, api.Entry{Thread: r.Intn(s.Conf.Threads), What: r.Intn(4)})
	}
	return s
}

// spoil breaks a rule of scripts, mostly.
func spoil(r *rand.Rand, s *api.Script) {
	thread := r.Intn(8)
	program := s.Programs[thread]
	switch r.Intn(8) {
	case 0:
		s.Conf = noConfs()[r.Intn(len(noConfs()))]
	case 1, 2:
		s.Programs[thread] = slices.Insert(program, r.Intn(len(program)+1), noCalls()[r.Intn(15)])
	case 3:
		s.Programs[thread] = append(program, calls(41)...)
	case 4:
		s.Entries = slices.Insert(s.Entries, r.Intn(len(s.Entries)+1), api.Entry{Thread: r.Intn(10) - 1})
	case 5, 6:
		s.Entries = slices.Insert(s.Entries, r.Intn(len(s.Entries)+1), api.Entry{Thread: thread, What: r.Intn(7) - 2})
	case 7:
		s.Conf.Of[thread] = r.Intn(5)
	}
}
