package means

import (
	"maps"
	"math"
	"math/rand"
	"slices"
	"testing"

	"burnbag/api"
)

// h is a handle, as a sum: of a level, a slot and a generation that have room in it.
func h(level, slot, gen int) uint64 {
	return uint64(level)<<60 + uint64(gen)<<8 + uint64(slot)
}

// owner is a thread of a level, if there is one.
func owner(f api.Conf, level int) (int, bool) {
	for thread := range f.Threads {
		if f.Of[thread] == level {
			return thread, true
		}
	}
	return 0, false
}

// reaching is threads: one of the level, and one above it, as far as there are any.
func reaching(f api.Conf, level int) []int {
	var l []int
	for _, wanted := range []func(of int) bool{func(of int) bool { return of == level }, func(of int) bool { return of > level }} {
		if thread := slices.IndexFunc(f.Of[:f.Threads], wanted); thread >= 0 {
			l = append(l, thread)
		}
	}
	return l
}

// turn is a call, and, if it isn't to be answered as Does does, what it is told.
type turn struct {
	c api.Call
	a api.Answer
}

// fillings is lists of turns that lead to ordinary states: with few things, with many, with a cache whose sets are full, touched or not, and with handles that were told and are gone.
func fillings(level int) [][]turn {
	pair := func(n uint64) api.Pair { return api.Pair{A: n, B: n + 100} }
	var few, many, full []turn
	few = append(few, turn{c: api.Call{Op: api.Put, Key: 5, Pair: pair(1)}}, turn{c: api.Call{Op: api.Store, Key: 5, Pair: pair(2)}},
		turn{c: api.Call{Op: api.Push, Pair: pair(3)}}, turn{c: api.Call{Op: api.New, Pair: pair(4)}})
	for i, key := range []int64{math.MinInt64, math.MaxInt64, 0, -1, 5, 4} {
		n := uint64(i)
		many = append(many, turn{c: api.Call{Op: api.Put, Key: key, Pair: pair(n)}}, turn{c: api.Call{Op: api.Store, Key: key, Pair: pair(n + 10)}},
			turn{c: api.Call{Op: api.Push, Pair: pair(n + 20)}}, turn{c: api.Call{Op: api.New, Pair: pair(n + 30)}})
	}
	many = append(many, turn{c: api.Call{Op: api.New, Pair: pair(40)}, a: api.Answer{Handle: h(level, 255, math.MaxUint32)}},
		turn{c: api.Call{Op: api.Pop}}, turn{c: api.Call{Op: api.Free, Handle: h(level, 1, 2)}}, turn{c: api.Call{Op: api.Del, Key: 5}},
		turn{c: api.Call{Op: api.Drop, Key: 0}})
	for key := range int64(11) {
		full = append(full, turn{c: api.Call{Op: api.Store, Key: key - 1, Pair: pair(uint64(key))}})
	}
	zeros := []turn{{c: api.Call{Op: api.Put}}, {c: api.Call{Op: api.Store}}, {c: api.Call{Op: api.Push}}, {c: api.Call{Op: api.New}}}
	touched := append(slices.Clone(full), turn{c: api.Call{Op: api.Fetch, Key: 5}}, turn{c: api.Call{Op: api.Fetch, Key: 4}})
	return [][]turn{nil, few, many, full, touched, zeros}
}

// filled is states of a level, and their models: those of fillings, if a thread is there that may fill them.
func filled(t *testing.T, b *book, f api.Conf, level int) []both {
	thread, ok := owner(f, level)
	if !ok || !mayBe(f) {
		return []both{start(f, level)}
	}
	var l []both
	for _, turns := range fillings(level) {
		x := start(f, level)
		for _, next := range turns {
			next.c.Level = level
			if next.a.Handle != 0 {
				x = x.told(t, b, thread, next.c, next.a)
			} else {
				x = x.does(t, b, thread, next.c)
			}
		}
		l = append(l, x)
	}
	return l
}

// noOps is numbers that no op has.
func noOps() []int {
	return []int{-1, 13, 14, -13, 256, 1 << 32, math.MaxInt, math.MinInt}
}

// keys is keys that are there, or not, in the states of fillings, of both sets, at int64's ends among them.
func keys() []int64 {
	return []int64{5, 4, 0, -1, 7, 6, math.MinInt64, math.MaxInt64}
}

// handles is handles of a level, live, gone and never told, in the states of fillings, and such as aren't of that level, or aren't right.
func handles(level int) []uint64 {
	return []uint64{
		0, 1, h(level, 1, 0), h(level, 1, 1), h(level, 1, 2), h(level, 1, 6), h(level, 1, 7), h(level, 2, 0), h(level, 60, 1000), h(level, 61, 1001),
		h(level, 255, math.MaxUint32), h(level, 255, math.MaxUint32-1), h(level, 0, 0), h(level, 0, 1), h(level, 128, 1<<31),
		h((level+1)%4, 1, 0), h((level+3)%4, 1, 3), h(level+4, 1, 0), h(level+8, 1, 0), h(level, 1, 3) | 1<<40, h(level, 1, 0) | 1<<59,
		math.MaxUint64,
	}
}

// calls is calls of all ops, and of ops that there aren't, at a level, with what an op has, and with what it hasn't, too.
func calls(level int) []api.Call {
	var l []api.Call
	for op := range 13 {
		for i, key := range keys() {
			l = append(l, api.Call{Op: op, Level: level, Key: key, Pair: api.Pair{A: uint64(i), B: 9}, Handle: h(level, 1, i), Reg: i})
		}
		l = append(l, api.Call{Op: op, Level: level})
	}
	for _, handle := range handles(level) {
		l = append(l, api.Call{Op: api.Read, Level: level, Handle: handle}, api.Call{Op: api.Free, Level: level, Handle: handle, Reg: 3})
	}
	for _, op := range noOps() {
		l = append(l, api.Call{Op: op, Level: level, Key: 5})
	}
	return l
}

// codes is all codes, and numbers that are none.
func codes() []api.Errno {
	l := []api.Errno{-1, 16, 17, 256, 1 << 32, math.MaxInt, math.MinInt}
	for code := range 16 {
		l = append(l, api.Errno(code))
	}
	return l
}

// near is answers that differ from one in a field, or in all but a field.
func near(a api.Answer) []api.Answer {
	l := []api.Answer{a, {Pair: a.Pair}, {N: a.N}, {N: a.N, Key: a.Key}, {Handle: a.Handle}}
	change := func(by func(b *api.Answer)) {
		b := a
		by(&b)
		l = append(l, b)
	}
	for _, code := range codes() {
		change(func(b *api.Answer) { b.Err = code })
		l = append(l, api.Answer{Err: code})
	}
	for _, d := range []uint64{1, 1 << 63, a.Pair.A, a.Pair.B} {
		change(func(b *api.Answer) { b.Pair.A ^= d })
		change(func(b *api.Answer) { b.Pair.B ^= d })
		change(func(b *api.Answer) { b.Handle ^= d })
		change(func(b *api.Answer) { b.Key ^= int64(d) })
	}
	change(func(b *api.Answer) { b.Pair.A, b.Pair.B = b.Pair.B, b.Pair.A })
	change(func(b *api.Answer) { b.Key = 0 })
	for _, n := range []int{-1, 0, 1, 2, 3, 4, math.MaxInt, math.MinInt} {
		change(func(b *api.Answer) { b.N = n })
		change(func(b *api.Answer) { b.N, b.Key = n, 0 })
		change(func(b *api.Answer) { b.N, b.Key = n, 4 })
	}
	return l
}

// levels is levels of a configuration, and such as it hasn't.
func levels(f api.Conf) []int {
	l := []int{-1, f.Levels, 4, math.MaxInt, math.MinInt}
	for level := range f.Levels {
		l = append(l, level)
	}
	return l
}

func TestExamples(t *testing.T) {
	s := New(plain(1, 0), 0)
	for i, want := range []api.Errno{api.OK, api.ErrExists} {
		next, a := s.Does(0, api.Call{Op: api.Put, Key: 5})
		if a != (api.Answer{Err: want}) {
			t.Errorf("Put %d of 5: %+v", i, a)
		}
		s = next
	}
	s, _ = s.Does(0, api.Call{Op: api.Push, Pair: api.Pair{A: 1}})
	s, _ = s.Does(0, api.Call{Op: api.Push, Pair: api.Pair{A: 2}})
	if _, a := s.Does(0, api.Call{Op: api.Pop}); a != (api.Answer{Pair: api.Pair{A: 1}}) {
		t.Errorf("Pop: %+v", a)
	}
	if _, ok := s.Told(0, api.Call{Op: api.Pop}, api.Answer{Pair: api.Pair{A: 2}}); ok {
		t.Error("Pop may be told 2")
	}
}

func TestNewHasNothing(t *testing.T) {
	for _, f := range append(confs(), noConfs()...) {
		for _, level := range levels(f) {
			s := New(f, level)
			if len(s.Sessions()) != 0 || len(s.Cached()) != 0 || len(s.Queued()) != 0 || len(s.Raw()) != 0 {
				t.Errorf("New of %+v at %d has %s", f, level, s.Text())
			}
			if s.Text() != New(f, level).Text() {
				t.Errorf("two of New of %+v at %d are told apart", f, level)
			}
		}
	}
}

func TestDoesIsAsMeantAtEachLevelOfAnyThread(t *testing.T) {
	t.Parallel()
	for _, f := range confs() {
		for level := range f.Levels {
			b := newBook()
			for _, x := range filled(t, b, f, level) {
				for thread := -1; thread <= f.Threads; thread++ {
					for _, c := range calls(level) {
						x.does(t, b, thread, c)
					}
				}
			}
		}
	}
}

// answers is what a call may be tried to be told: what is near what it is meant to be, and, of New, handles.
func answers(x both, thread int, c api.Call) []api.Answer {
	_, meant := x.m.meant(thread, c)
	l := near(meant)
	if c.Op == api.New {
		for _, handle := range handles(x.m.level) {
			l = append(l, api.Answer{Handle: handle}, api.Answer{Handle: handle, Key: 1}, api.Answer{Handle: handle, Err: api.ErrFull})
		}
	}
	return l
}

func TestToldTakesJustWhatMayBe(t *testing.T) {
	t.Parallel()
	for _, f := range []api.Conf{plain(1, 0), plain(2, 1, 0), plain(4, 3, 2, 1, 0)} {
		for level := range f.Levels {
			b := newBook()
			for _, x := range filled(t, b, f, level) {
				for _, thread := range reaching(f, level) {
					for _, c := range calls(level) {
						for _, a := range answers(x, thread, c) {
							x.told(t, b, thread, c, a)
						}
					}
				}
			}
		}
	}
}

// checkRefused has a call be refused with just that code, by Does and by Told, and change nothing.
func checkRefused(t *testing.T, x both, thread int, c api.Call, code api.Errno) {
	t.Helper()
	next, a := x.s.Does(thread, c)
	if a != (api.Answer{Err: code}) {
		t.Fatalf("thread %d of %v at %d: %+v: %+v, not %v", thread, x.m.f.Of, x.m.level, c, a, code)
	}
	x.stays(t, c, next)
	for _, other := range append(near(a), api.Answer{Handle: h(x.m.level, 2, 5)}) {
		next, ok := x.s.Told(thread, c, other)
		if ok != (other == a) {
			t.Fatalf("thread %d of %v at %d: %+v told %+v: %v", thread, x.m.f.Of, x.m.level, c, other, ok)
		}
		x.stays(t, c, next)
	}
}

func TestCallsOfAnotherLevelAreBad(t *testing.T) {
	t.Parallel()
	f := plain(4, 0, 1, 2, 3)
	for level := range 4 {
		b := newBook()
		for _, x := range filled(t, b, f, level) {
			for _, other := range []int{-1, 0, 1, 2, 3, 4, level + 256, level - 4, math.MaxInt, math.MinInt} {
				if other == level {
					continue
				}
				for op := range 13 {
					for _, thread := range []int{level, 0, 3} {
						checkRefused(t, x, thread, api.Call{Op: op, Level: other, Key: 5, Handle: h(level, 1, 0)}, api.ErrBad)
					}
				}
			}
		}
	}
}

func TestCallsThatMayNotBeAreBad(t *testing.T) {
	f := plain(2, 0, 1)
	for level := range 2 {
		b := newBook()
		for _, x := range filled(t, b, f, level) {
			for _, op := range noOps() {
				for _, thread := range []int{0, 1} {
					checkRefused(t, x, thread, api.Call{Op: op, Level: level, Key: 5}, api.ErrBad)
				}
			}
			for op := range 13 {
				for _, thread := range []int{2, 3, 7, 8, -1, math.MaxInt, math.MinInt} {
					checkRefused(t, x, thread, api.Call{Op: op, Level: level, Key: 5, Handle: h(level, 1, 0)}, api.ErrBad)
				}
			}
		}
	}
	for _, level := range []int{-1, 4, -4, 16, math.MaxInt, math.MinInt} {
		for op := range 13 {
			for thread := range 2 {
				checkRefused(t, start(f, level), thread, api.Call{Op: op, Level: level}, api.ErrBad)
			}
		}
	}
	for _, f := range noConfs() {
		for level := range 4 {
			for op := range 13 {
				checkRefused(t, start(f, level), 0, api.Call{Op: op, Level: level}, api.ErrBad)
			}
		}
	}
}

func TestCallsThatPolicyRefuses(t *testing.T) {
	f := plain(4, 0, 1, 2, 2)
	looks := []int{api.Get, api.Fetch, api.Peek, api.Read}
	for level := range 4 {
		b := newBook()
		for _, x := range filled(t, b, f, level) {
			for thread := range 4 {
				for op := range 13 {
					below, above := f.Of[thread] < level, f.Of[thread] > level
					if below || above && !slices.Contains(looks, op) {
						checkRefused(t, x, thread, api.Call{Op: op, Level: level, Key: 5, Handle: h(level, 1, 0)}, api.ErrPolicy)
					}
				}
			}
		}
	}
}

func TestTheRegIsNotLookedAt(t *testing.T) {
	f := plain(2, 0, 1)
	b := newBook()
	for _, x := range filled(t, b, f, 0) {
		for _, c := range calls(0) {
			for thread := range 2 {
				c.Reg = 0
				want, a := x.s.Does(thread, c)
				for _, reg := range []int{-1, 1, 2, 40, 41, 256, math.MaxInt, math.MinInt} {
					c.Reg = reg
					got, other := x.s.Does(thread, c)
					if other != a || got.Text() != want.Text() {
						t.Fatalf("%+v: %+v, not %+v", c, other, a)
					}
					if got, ok := x.s.Told(thread, c, a); !ok || got.Text() != want.Text() {
						t.Fatalf("%+v may not be told %+v", c, a)
					}
				}
			}
		}
	}
}

func TestWhatMayBeAnsweredBesides(t *testing.T) {
	f := plain(3, 0, 1, 2)
	asked := []api.Errno{api.ErrFull, api.ErrLimbo, api.ErrQuota, api.ErrRetry}
	fits := map[int][]api.Errno{
		api.Put: {api.ErrFull}, api.Push: {api.ErrFull}, api.Store: {api.ErrFull, api.ErrLimbo}, api.New: {api.ErrFull, api.ErrQuota},
		api.Del: {api.ErrLimbo}, api.Drop: {api.ErrLimbo}, api.Pop: {api.ErrLimbo}, api.Free: {api.ErrLimbo},
	}
	b := newBook()
	for _, x := range filled(t, b, f, 1) {
		for _, c := range calls(1) {
			for thread := range 3 {
				for _, code := range asked {
					want := thread == 1 && slices.Contains(fits[c.Op], code)
					if c.Op == api.Get || c.Op == api.Fetch || c.Op == api.Peek || c.Op == api.Read {
						want = thread == 2 && code == api.ErrRetry
					}
					next, ok := x.s.Told(thread, c, api.Answer{Err: code})
					if ok != want {
						t.Fatalf("thread %d: %+v told %v: %v", thread, c, code, ok)
					}
					x.stays(t, c, next)
					if next, ok := x.s.Told(thread, c, api.Answer{Err: code, Pair: api.Pair{B: 1}}); ok || next.Text() != x.s.Text() {
						t.Fatalf("thread %d: %+v told %v, and a pair", thread, c, code)
					}
				}
			}
		}
	}
}

func TestHandlesOfNew(t *testing.T) {
	f := plain(4, 0, 1, 2, 3)
	for level := range 4 {
		b := newBook()
		c := api.Call{Op: api.New, Level: level, Pair: api.Pair{A: 1, B: 2}}
		takes := func(x both, handle uint64, want bool) both {
			t.Helper()
			_, ok := x.s.Told(level, c, api.Answer{Handle: handle})
			if ok != want {
				t.Fatalf("level %d: New told %x: %v, as of\n%s", level, handle, ok, x.s.Text())
			}
			return x.told(t, b, level, c, api.Answer{Handle: handle})
		}
		rights := []uint64{
			h(level, 1, 0), h(level, 2, 0), h(level, 9, 999), h(level, 10, 1000), h(level, 60, 1<<20), h(level, 61, 1<<20-1), h(level, 255, math.MaxUint32),
			h(level, 1, 1), h(level, 128, 1<<31), h(level, 1, math.MaxUint32), h(level, 255, 0),
		}
		x := start(f, level)
		for _, handle := range rights {
			x = takes(x, handle, true)
			takes(x, handle, false)
		}
		for _, handle := range rights {
			read := api.Call{Op: api.Read, Level: level, Handle: handle}
			if _, a := x.s.Does(3, read); a != (api.Answer{Pair: c.Pair}) {
				t.Fatalf("%x: %+v", handle, a)
			}
			x = x.does(t, b, level, api.Call{Op: api.Free, Level: level, Handle: handle})
			if _, a := x.s.Does(3, read); a != (api.Answer{Err: api.ErrStale}) {
				t.Fatalf("%x is gone: %+v", handle, a)
			}
			takes(x, handle, false)
		}
		for _, handle := range handles(level) {
			right := handle&255 != 0 && handle>>40 == uint64(level)<<20 && !slices.Contains(rights, handle)
			takes(x, handle, right)
		}
		for bit := range 64 {
			takes(x, h(level, 3, 77)^1<<bit, bit < 40)
		}
	}
}

func TestDoesTellsTheLeastGenerationOfSlotOne(t *testing.T) {
	f := plain(4, 0, 1, 2, 3)
	for level := range 4 {
		b := newBook()
		for _, ahead := range [][]uint64{
			nil,
			{h(level, 1, 0)}, {h(level, 1, 1)}, {h(level, 1, 0), h(level, 1, 1), h(level, 1, 3)}, {h(level, 1, 3), h(level, 1, 1), h(level, 1, 0)},
			{h(level, 2, 0), h(level, 3, 1), h(level, 1, 2)}, {h(level, 2, 0), h(level, 1, 0), h(level, 255, 0), h(level, 2, 1), h(level, 1, 4)},
			{h(level, 1, math.MaxUint32), h(level, 129, 0), h(level, 1, 0)}, {h(level, 1, 256), h(level, 1, 255), h(level, 1, 1)},
		} {
			x := start(f, level)
			for _, handle := range ahead {
				x = x.told(t, b, level, api.Call{Op: api.New, Level: level}, api.Answer{Handle: handle})
			}
			told := slices.Clone(ahead)
			for i := range 8 {
				gen := 0
				for slices.Contains(told, h(level, 1, gen)) {
					gen++
				}
				next, a := x.s.Does(level, api.Call{Op: api.New, Level: level, Pair: api.Pair{A: uint64(i)}})
				if a != (api.Answer{Handle: h(level, 1, gen)}) {
					t.Fatalf("behind %x: %+v", told, a)
				}
				told = append(told, a.Handle)
				x = x.does(t, b, level, api.Call{Op: api.New, Level: level, Pair: api.Pair{A: uint64(i)}})
				if next.Text() != x.s.Text() {
					t.Fatal("done twice")
				}
				if i%2 == 1 {
					// What is gone isn't told again.
					x = x.does(t, b, level, api.Call{Op: api.Free, Level: level, Handle: a.Handle})
				}
			}
		}
	}
}

func TestTendIsToldAnyNumber(t *testing.T) {
	f := plain(2, 0, 1)
	for level := range 2 {
		b := newBook()
		for _, x := range filled(t, b, f, level) {
			c := api.Call{Op: api.Tend, Level: level, Key: 5, Handle: h(level, 1, 0)}
			if next, a := x.s.Does(level, c); a != (api.Answer{}) || next.Text() != x.s.Text() {
				t.Fatalf("Tend: %+v", a)
			}
			for _, n := range []int{0, 1, 2, 3, 9, 40, 60, 61, 1 << 31, math.MaxInt, -1, -2, math.MinInt} {
				next, ok := x.s.Told(level, c, api.Answer{N: n})
				if ok != (n >= 0) {
					t.Fatalf("Tend told %d: %v", n, ok)
				}
				x.stays(t, c, next)
				for _, a := range []api.Answer{{N: n, Key: 1}, {N: n, Pair: api.Pair{A: 1}}, {N: n, Handle: 1}, {N: n, Err: api.ErrNone}} {
					if _, ok := x.s.Told(level, c, a); ok {
						t.Fatalf("Tend told %+v", a)
					}
				}
			}
		}
	}
}

// everyCache goes through all states of a cache that can be come to by keys of one set, and by looks from above.
func everyCache(t *testing.T, keys []int64) int {
	f := plain(2, 0, 1)
	b := newBook()
	x := start(f, 0)
	met, work := map[string]int{x.m.key(): 1}, []both{x}
	for len(work) > 0 {
		x, work = work[0], work[1:]
		for _, key := range keys {
			for _, c := range []api.Call{
				{Op: api.Store, Key: key, Pair: api.Pair{A: uint64(key)}}, {Op: api.Fetch, Key: key}, {Op: api.Drop, Key: key},
			} {
				next := x.does(t, b, 0, c)
				if model := next.m.key(); met[model] == 0 {
					met[model] = 1
					work = append(work, next)
				}
			}
			if next := x.does(t, b, 1, api.Call{Op: api.Fetch, Key: key}); next.m.key() != x.m.key() {
				t.Fatal("a look from above touches")
			}
		}
	}
	return len(met)
}

func TestEveryStateOfACache(t *testing.T) {
	t.Parallel()
	if n := everyCache(t, []int64{0, 2, -4, math.MinInt64, 8}); n < 10000 {
		t.Errorf("only %d states of the first set", n)
	}
	if n := everyCache(t, []int64{1, 3, -5, math.MaxInt64}); n < 100 {
		t.Errorf("only %d states of the second set", n)
	}
}

// calling does calls of the only thread, one behind the other, which must be answered so.
func calling(t *testing.T, s State, turns ...turn) State {
	t.Helper()
	for _, x := range turns {
		next, a := s.Does(0, x.c)
		if a != x.a {
			t.Fatalf("%+v: %+v, not %+v, as of\n%s", x.c, a, x.a, s.Text())
		}
		s = next
	}
	return s
}

// store is the Store of a key, with a pair of its own, told N, and, if it isn't 0, the key that was given up.
func store(key int64, n int, gone int64) turn {
	return turn{api.Call{Op: api.Store, Key: key, Pair: own(key)}, api.Answer{N: n, Key: gone}}
}

// fetch is the Fetch of a key that has a pair of its own.
func fetch(key int64) turn {
	return turn{api.Call{Op: api.Fetch, Key: key}, api.Answer{Pair: own(key)}}
}

// drop is the Drop of a key that has a pair of its own.
func drop(key int64) turn {
	return turn{api.Call{Op: api.Drop, Key: key}, api.Answer{Pair: own(key)}}
}

// own is a pair that a key has.
func own(key int64) api.Pair {
	return api.Pair{A: uint64(key), B: ^uint64(key)}
}

func TestWhichKeyOfASetIsGivenUp(t *testing.T) {
	none := turn{api.Call{Op: api.Fetch, Key: 2}, api.Answer{Err: api.ErrNone}}
	s := New(plain(1, 0), 0)
	s = calling(t, s, store(2, 0, 0), store(4, 0, 0), store(6, 0, 0), store(8, 0, 0))
	// Keys of the other set have ways of their own.
	s = calling(t, s, store(1, 0, 0), store(3, 0, 0), store(5, 0, 0), store(-1, 0, 0))
	// All are touched: the hand's goes, and no other one is touched any more, so that the hand goes on by one each.
	s = calling(t, s, store(10, 2, 2), none, store(12, 2, 4))
	// What is touched is passed over, and isn't touched any more.
	s = calling(t, s, fetch(6), store(14, 2, 8), store(16, 2, 6), store(7, 2, 1), store(18, 2, 10), store(20, 2, 12))
	// A way that is empty is taken ahead of all, and the hand, which is 16's, stays.
	s = calling(t, s, drop(14), store(22, 0, 0), store(16, 1, 0), store(24, 2, 16))
	// A key that is 0 is told as any other one.
	s = calling(t, New(plain(1, 0), 0), store(0, 0, 0), store(2, 0, 0), store(4, 0, 0), store(6, 0, 0), store(8, 2, 0))
	if got := s.Cached(); len(got) != 4 || got[0].Key != 2 || got[3].Key != 8 {
		t.Errorf("the cache has %v", got)
	}
}

func TestFetchTouchesJustByThreadsOfTheLevel(t *testing.T) {
	f := plain(4, 3, 2, 1, 1)
	look := api.Call{Op: api.Fetch, Level: 1, Key: 4}
	s := New(f, 1)
	for key := int64(0); key <= 8; key += 2 {
		s, _ = s.Does(2, api.Call{Op: api.Store, Level: 1, Key: key, Pair: own(key)})
	}
	// The ways have 8, 2, 4 and 6, of which just 8 is touched, and the hand is 2's.
	for _, thread := range []int{0, 1, 2, 3} {
		next, a := s.Does(thread, look)
		if a != (api.Answer{Pair: own(4)}) {
			t.Fatalf("thread %d fetches %+v", thread, a)
		}
		if touched := next.Text() != s.Text(); touched != (thread >= 2) {
			t.Errorf("Fetch of thread %d: %v", thread, touched)
		}
		if told, ok := s.Told(thread, look, a); !ok || told.Text() != next.Text() {
			t.Errorf("Fetch of thread %d, told", thread)
		}
		next, _ = next.Does(2, api.Call{Op: api.Drop, Level: 1, Key: 2})
		next, _ = next.Does(2, api.Call{Op: api.Store, Level: 1, Key: 12})
		next, _ = next.Does(2, api.Call{Op: api.Fetch, Level: 1, Key: 12})
		_, a = next.Does(2, api.Call{Op: api.Store, Level: 1, Key: 14})
		// 12 is touched; so 4 goes, if nobody of the level fetched it, else 6.
		if want := (api.Answer{N: 2, Key: 4}); thread < 2 && a != want {
			t.Errorf("thread %d fetched 4: %+v", thread, a)
		} else if want.Key = 6; thread >= 2 && a != want {
			t.Errorf("thread %d fetched 4: %+v", thread, a)
		}
	}
}

// dice tells calls by chance, of few keys and handles, by a source that begins with a number.
type dice struct {
	*rand.Rand
	level int
}

// newDice is dice of a level.
func newDice(seed int64, level int) dice {
	return dice{rand.New(rand.NewSource(seed)), level}
}

// call is a call; some are of another level, or may not be.
func (d dice) call(m model) api.Call {
	c := api.Call{Op: d.Intn(13), Level: d.level, Key: int64(d.Intn(13) - 6), Pair: api.Pair{A: uint64(d.Intn(3)), B: uint64(d.Intn(3))}, Reg: d.Intn(41)}
	switch d.Intn(3) {
	case 0:
		c.Handle = h(d.level, d.Intn(3), d.Intn(20))
	default:
		if live := slices.Sorted(maps.Keys(m.live)); len(live) > 0 {
			c.Handle = live[d.Intn(len(live))]
		}
	}
	switch d.Intn(20) {
	case 0:
		c.Level = d.Intn(6) - 1
	case 1:
		c.Op = d.Intn(16) - 1
	}
	return c
}

// answer is what a call is tried to be told: often what it is meant to be, of New often another handle.
func (d dice) answer(meant api.Answer, c api.Call) api.Answer {
	switch {
	case d.Intn(8) == 0:
		l := near(meant)
		return l[d.Intn(len(l))]
	case c.Op == api.New && meant.Err == api.OK && d.Intn(2) == 0:
		meant.Handle = h(d.level, 1+d.Intn(3), d.Intn(30))
	case c.Op == api.Tend:
		meant.N += d.Intn(5)
	}
	return meant
}

func TestLongTurnsOfCallsAreAsMeant(t *testing.T) {
	t.Parallel()
	for i, f := range []api.Conf{plain(1, 0, 0), plain(2, 0, 1, 1), plain(4, 0, 1, 2, 3), plain(4, 3, 2, 1, 0, 3)} {
		for level := range f.Levels {
			b, d, x := newBook(), newDice(int64(10*i+level), level), start(f, level)
			kept := []both{x}
			for range 2000 {
				thread := d.Intn(f.Threads+2) - 1
				if d.Intn(3) > 0 {
					thread, _ = owner(f, level)
				}
				c := d.call(x.m)
				_, meant := x.m.meant(thread, c)
				if d.Intn(2) == 0 {
					x = x.does(t, b, thread, c)
				} else {
					x = x.told(t, b, thread, c, d.answer(meant, c))
				}
				kept = append(kept, x)
			}
			for _, was := range kept {
				was.stays(t, "what was done later", was.s)
			}
		}
	}
}

func TestStatesOfOneStateAreByThemselves(t *testing.T) {
	f := plain(2, 0, 1)
	for level := range 2 {
		b := newBook()
		for i, base := range filled(t, b, f, level) {
			d := newDice(int64(i), level)
			family := []both{base}
			for range 600 {
				x := family[d.Intn(len(family))]
				c := d.call(x.m)
				_, meant := x.m.meant(level, c)
				family = append(family, x.told(t, b, level, c, d.answer(meant, c)), x.does(t, b, level, c))
			}
			for _, x := range family {
				b.check(t, "one of a family", x.s, x.m)
				x.stays(t, "what was done later", x.s)
			}
		}
	}
}

func TestListsAreCopies(t *testing.T) {
	f := plain(1, 0)
	b := newBook()
	for _, x := range filled(t, b, f, 0) {
		next, _ := x.s.Does(0, api.Call{Op: api.Push})
		for _, s := range []State{x.s, next, x.s} {
			text := s.Text()
			for _, l := range [][]api.Row{s.Sessions(), s.Cached()} {
				for i := range l[:cap(l)] {
					l[:cap(l)][i] = api.Row{Key: 77, Pair: api.Pair{A: 7, B: 7}}
				}
			}
			for l, i := s.Queued(), 0; i < cap(l); i++ {
				l[:cap(l)][i] = api.Pair{A: 7, B: 7}
			}
			for l, i := s.Raw(), 0; i < cap(l); i++ {
				l[:cap(l)][i] = 7
			}
			if s.Text() != text {
				t.Fatalf("what is told is the state's own:\n%s\n%s", text, s.Text())
			}
		}
		b.check(t, "copies", x.s, x.m)
	}
}

func TestListsRiseWhereTheyMust(t *testing.T) {
	s := New(plain(1, 0), 0)
	var pairs []api.Pair
	for i, key := range []int64{3, math.MaxInt64, -7, 0, math.MinInt64, 2, 1, -8} {
		pair := api.Pair{A: uint64(100 - i), B: uint64(i)}
		for _, op := range []int{api.Put, api.Store, api.Push} {
			s, _ = s.Does(0, api.Call{Op: op, Key: key, Pair: pair})
		}
		s, _ = s.Told(0, api.Call{Op: api.New}, api.Answer{Handle: h(0, 200-i, 5+i%3)})
		pairs = append(pairs, pair)
	}
	for what, l := range map[string][]api.Row{"sessions": s.Sessions(), "the cache": s.Cached()} {
		if len(l) != 8 || !slices.IsSortedFunc(l, func(a, b api.Row) int {
			if a.Key > b.Key {
				return 1
			}
			return -1
		}) {
			t.Errorf("%s: %v", what, l)
		}
	}
	if raw := s.Raw(); len(raw) != 8 || !slices.IsSorted(raw) {
		t.Errorf("raw: %v", raw)
	}
	if got := s.Queued(); !slices.Equal(got, pairs) {
		t.Errorf("the line: %v", got)
	}
}

// op is a turn of an op, with a key and a pair.
func op(op int, key int64, a, b uint64) turn {
	return turn{c: api.Call{Op: op, Key: key, Pair: api.Pair{A: a, B: b}}}
}

// made is a node that is told a handle; gone is the Free of it.
func made(handle, a, b uint64) turn {
	return turn{c: api.Call{Op: api.New, Pair: api.Pair{A: a, B: b}}, a: api.Answer{Handle: handle}}
}

func gone(handle uint64) turn {
	return turn{c: api.Call{Op: api.Free, Handle: handle}}
}

// behind is the state behind turns of the only thread, none of which may be refused.
func behind(t *testing.T, turns []turn) State {
	t.Helper()
	s := New(plain(1, 0), 0)
	for _, x := range turns {
		if x.c.Op == api.New {
			next, ok := s.Told(0, x.c, x.a)
			if !ok {
				t.Fatalf("%+v isn't told %+v", x.c, x.a)
			}
			s = next
			continue
		}
		next, a := s.Does(0, x.c)
		if a.Err != api.OK {
			t.Fatalf("%+v: %+v", x.c, a)
		}
		s = next
	}
	return s
}

// stored is Stores of keys, each with a pair of its own.
func stored(keys ...int64) []turn {
	var l []turn
	for _, key := range keys {
		l = append(l, turn{c: api.Call{Op: api.Store, Key: key, Pair: own(key)}})
	}
	return l
}

// with is turns, and more of them.
func with(l []turn, more ...turn) []turn {
	return append(slices.Clone(l), more...)
}

func TestTextTellsEachPartApart(t *testing.T) {
	two := []turn{made(257, 1, 1), made(513, 2, 2)}
	// The key 0 has a pair of noughts, and isn't touched, as 8 took the place of 2.
	noughts := with(stored(2), with([]turn{op(api.Store, 0, 0, 0)}, stored(4, 6, 8)...)...)
	for about, of := range map[string][2][]turn{
		"a session":                 {nil, {op(api.Put, 0, 0, 0)}},
		"a session's key":           {{op(api.Put, 5, 1, 2)}, {op(api.Put, 6, 1, 2)}},
		"a session's sign":          {{op(api.Put, 5, 1, 2)}, {op(api.Put, -5, 1, 2)}},
		"a session's A":             {{op(api.Put, 5, 1, 2)}, {op(api.Put, 5, 2, 2)}},
		"a session's B":             {{op(api.Put, 5, 1, 2)}, {op(api.Put, 5, 1, 1)}},
		"a key's highest bits":      {{op(api.Put, 5, 1, 2)}, {op(api.Put, 1<<40+5, 1, 2)}},
		"A's highest bit":           {{op(api.Put, 5, 1, 2)}, {op(api.Put, 5, 1<<63+1, 2)}},
		"B's highest bit":           {{op(api.Push, 0, 1, 2)}, {op(api.Push, 0, 1, 1<<63+2)}},
		"a handle's highest bits":   {{made(257, 1, 1), gone(257)}, {made(1<<36+257, 1, 1), gone(1<<36 + 257)}},
		"a live one's highest bits": {{made(257, 1, 1), made(1<<36+257, 1, 1), gone(257)}, {made(257, 1, 1), made(1<<36+257, 1, 1), gone(1<<36 + 257)}},
		"a key of noughts":          {with(noughts, op(api.Drop, 0, 0, 0)), noughts},
		"digits of a key":           {{op(api.Put, 51, 1, 2)}, {op(api.Put, 5, 11, 2)}},
		"digits of a pair":          {{op(api.Put, 5, 11, 2)}, {op(api.Put, 5, 1, 12)}},
		"a key of the cache":        {nil, {op(api.Store, 0, 0, 0)}},
		"a pair's A of the cache":   {{op(api.Store, 5, 1, 2)}, {op(api.Store, 5, 3, 2)}},
		"a pair's B of the cache":   {{op(api.Store, 5, 1, 2)}, {op(api.Store, 5, 1, 3)}},
		"a set":                     {{op(api.Store, 5, 1, 2)}, {op(api.Store, 4, 1, 2)}},
		"ways":                      {stored(2, 4), stored(4, 2)},
		"a way":                     {with(stored(2, 4), drop(2)), stored(4)},
		"a way of the other set":    {stored(1, 3), stored(3, 1)},
		"the hand":                  {stored(10, 4, 6, 8), with(stored(2, 4, 6, 8, 10), fetch(4), fetch(6), fetch(8))},
		"the other set's hand":      {stored(11, 3, 5, 7), with(stored(1, 3, 5, 7, 11), fetch(3), fetch(5), fetch(7))},
		"a touch":                   {stored(2, 4, 6, 8, 10), with(stored(2, 4, 6, 8, 10), fetch(4))},
		"which is touched":          {with(stored(2, 4, 6, 8, 10), fetch(6)), with(stored(2, 4, 6, 8, 10), fetch(4))},
		"a touch of the other set":  {stored(1, 3, 5, 7, 9), with(stored(1, 3, 5, 7, 9), fetch(3))},
		"a pair in the line":        {nil, {op(api.Push, 0, 0, 0)}},
		"pairs in the line":         {{op(api.Push, 0, 0, 0)}, {op(api.Push, 0, 0, 0), op(api.Push, 0, 0, 0)}},
		"a pair's A in the line":    {{op(api.Push, 0, 1, 2)}, {op(api.Push, 0, 2, 2)}},
		"a pair's B in the line":    {{op(api.Push, 0, 1, 2)}, {op(api.Push, 0, 1, 1)}},
		"the line's order":          {{op(api.Push, 0, 1, 2), op(api.Push, 0, 3, 4)}, {op(api.Push, 0, 3, 4), op(api.Push, 0, 1, 2)}},
		"a live handle":             {with(two, gone(257)), with(two, gone(513))},
		"a live handle that goes":   {two, with(two, gone(513))},
		"handles":                   {{made(257, 1, 1)}, {made(258, 1, 1)}},
		"a raw node's A":            {{made(257, 1, 2)}, {made(257, 2, 2)}},
		"a raw node's B":            {{made(257, 1, 2)}, {made(257, 1, 1)}},
		"whose pair is whose":       {{made(257, 1, 1), made(513, 2, 2)}, {made(257, 2, 2), made(513, 1, 1)}},
		"a handle that is gone":     {nil, {made(257, 0, 0), gone(257)}},
		"which handle is gone":      {{made(257, 0, 0), gone(257)}, {made(258, 0, 0), gone(258)}},
		"a handle more that's gone": {two, with(two, made(1, 1, 1), gone(1))},
		"sessions, not the cache":   {{op(api.Put, 5, 1, 2)}, {op(api.Store, 5, 1, 2)}},
		"the line, not sessions":    {{op(api.Push, 5, 1, 2)}, {op(api.Put, 5, 1, 2)}},
		"sessions, not raw nodes":   {{op(api.Put, 257, 1, 2)}, {made(257, 1, 2)}},
	} {
		one, other := behind(t, of[0]).Text(), behind(t, of[1]).Text()
		if one == other {
			t.Errorf("%s: both are told as\n%s", about, one)
		}
	}
}

func TestTextIsTheSameHoweverStatesCameToBe(t *testing.T) {
	pop := turn{c: api.Call{Op: api.Pop}}
	look := []turn{{c: api.Call{Op: api.Peek}}, {c: api.Call{Op: api.Get, Key: 5}}, {c: api.Call{Op: api.Tend}}}
	for about, of := range map[string][2][]turn{
		"sessions in any order":  {{op(api.Put, 5, 1, 2), op(api.Put, -4, 0, 0)}, {op(api.Put, -4, 0, 0), op(api.Put, 5, 1, 2)}},
		"a session that went":    {nil, {op(api.Put, 5, 1, 2), op(api.Del, 5, 0, 0)}},
		"a session anew":         {{op(api.Put, 5, 1, 2)}, {op(api.Put, 5, 3, 4), op(api.Del, 5, 0, 0), op(api.Put, 5, 1, 2)}},
		"a key that was dropped": {nil, {op(api.Store, 5, 1, 2), op(api.Drop, 5, 0, 0)}},
		"a key stored anew":      {stored(2), {op(api.Store, 2, 7, 7), stored(2)[0], stored(2)[0]}},
		"a key fetched":          {stored(2), with(stored(2), fetch(2), fetch(2))},
		"another in its place":   {stored(4), with(stored(2), with([]turn{drop(2)}, stored(4)...)...)},
		"the hand round":         {stored(10, 12, 14, 16), stored(2, 4, 6, 8, 10, 12, 14, 16)},
		"both sets":              {stored(1, 2, 3, 4), stored(2, 4, 1, 3)},
		"what was popped":        {{op(api.Push, 0, 1, 2)}, {op(api.Push, 0, 3, 4), op(api.Push, 0, 1, 2), pop}},
		"a line that was":        {nil, {op(api.Push, 0, 3, 4), pop}},
		"handles in any order":   {{made(257, 1, 1), made(2, 2, 2)}, {made(2, 2, 2), made(257, 1, 1)}},
		"gone in any order":      {{made(257, 1, 1), made(2, 2, 2), gone(2), gone(257)}, {made(2, 3, 3), gone(2), made(257, 4, 4), gone(257)}},
		"looks":                  {{op(api.Put, 5, 1, 2), op(api.Push, 0, 3, 4)}, with([]turn{op(api.Put, 5, 1, 2), op(api.Push, 0, 3, 4)}, look...)},
	} {
		one, other := behind(t, of[0]).Text(), behind(t, of[1]).Text()
		if one != other {
			t.Errorf("%s: told apart are\n%s\n%s", about, one, other)
		}
	}
}

// memory is what was put in and didn't go, as the answers tell it alone.
type memory struct {
	sessions, cached map[int64]api.Pair
	waits            []api.Pair
	nodes            map[uint64]api.Pair
}

// note notes a call that was answered OK.
func (m *memory) note(c api.Call, a api.Answer) {
	switch c.Op {
	case api.Put:
		m.sessions[c.Key] = c.Pair
	case api.Del:
		delete(m.sessions, c.Key)
	case api.Store:
		if a.N == 2 {
			delete(m.cached, a.Key)
		}
		m.cached[c.Key] = c.Pair
	case api.Drop:
		delete(m.cached, c.Key)
	case api.Push:
		m.waits = append(m.waits, c.Pair)
	case api.Pop:
		m.waits = m.waits[1:]
	case api.New:
		m.nodes[a.Handle] = c.Pair
	case api.Free:
		delete(m.nodes, c.Handle)
	}
}

// check has a thread look for all that is there, and for what isn't.
func (m *memory) check(t *testing.T, s State, level, thread int) {
	t.Helper()
	look := func(c api.Call, pair api.Pair, there bool, code api.Errno) {
		t.Helper()
		want := api.Answer{Pair: pair}
		if !there {
			want = api.Answer{Err: code}
		}
		c.Level = level
		if _, a := s.Does(thread, c); a != want {
			t.Fatalf("thread %d: %+v: %+v, not %+v, as of\n%s", thread, c, a, want, s.Text())
		}
	}
	for key := int64(-7); key <= 7; key++ {
		pair, there := m.sessions[key]
		look(api.Call{Op: api.Get, Key: key}, pair, there, api.ErrNone)
		pair, there = m.cached[key]
		look(api.Call{Op: api.Fetch, Key: key}, pair, there, api.ErrNone)
	}
	for slot := range 3 {
		for gen := range 20 {
			pair, there := m.nodes[h(level, slot, gen)]
			look(api.Call{Op: api.Read, Handle: h(level, slot, gen)}, pair, there, api.ErrStale)
		}
	}
	var first api.Pair
	if len(m.waits) > 0 {
		first = m.waits[0]
	}
	look(api.Call{Op: api.Peek}, first, len(m.waits) > 0, api.ErrNone)
}

func TestWhatIsPutInIsFoundTillItGoes(t *testing.T) {
	f := plain(4, 0, 1, 2, 3, 3)
	for level := range 4 {
		d, s := newDice(int64(level), level), New(f, level)
		m := &memory{sessions: map[int64]api.Pair{}, cached: map[int64]api.Pair{}, nodes: map[uint64]api.Pair{}}
		for range 1500 {
			c := d.call(model{live: m.nodes})
			next, a := s.Does(level, c)
			if a.Err == api.OK {
				m.note(c, a)
			} else if next.Text() != s.Text() {
				t.Fatalf("%+v: %v changes", c, a.Err)
			}
			s = next
			for thread := level; thread < 5; thread++ {
				m.check(t, s, level, thread)
			}
		}
	}
}

func TestWhoIsAboveChangesNothing(t *testing.T) {
	f := plain(4, 0, 1, 2, 3)
	for level := range 4 {
		d, s, alone := newDice(int64(level+40), level), New(f, level), New(f, level)
		for range 2000 {
			nodes := map[uint64]api.Pair{}
			for _, handle := range s.Raw() {
				nodes[handle] = api.Pair{}
			}
			c := d.call(model{live: nodes})
			for thread := level + 1; thread < 4; thread++ {
				was := s.Text()
				next, a := s.Does(thread, c)
				again, ok := s.Told(thread, c, a)
				if !ok || next.Text() != was || again.Text() != was {
					t.Fatalf("thread %d changes level %d by %+v", thread, level, c)
				}
				if again, _ := next.Told(thread, c, api.Answer{Err: api.ErrRetry}); again.Text() != was {
					t.Fatalf("thread %d changes level %d by ErrRetry", thread, level)
				}
				s = next
			}
			next, a := s.Does(level, c)
			other, b := alone.Does(level, c)
			if a != b || next.Text() != other.Text() {
				t.Fatalf("level %d: %+v: %+v, alone %+v", level, c, a, b)
			}
			s, alone = next, other
		}
	}
}

func TestManyThingsAreFound(t *testing.T) {
	const many = 3000
	s := New(plain(1, 0), 0)
	for i := range many {
		pair := api.Pair{A: uint64(i), B: 1}
		s, _ = s.Does(0, api.Call{Op: api.Put, Key: int64(i) * 7919 % many, Pair: pair})
		s, _ = s.Does(0, api.Call{Op: api.Push, Pair: pair})
		s, _ = s.Does(0, api.Call{Op: api.New, Pair: pair})
	}
	if len(s.Sessions()) != many || len(s.Queued()) != many || len(s.Raw()) != many {
		t.Fatalf("%d sessions, %d in the line, %d raw nodes", len(s.Sessions()), len(s.Queued()), len(s.Raw()))
	}
	for i := range many {
		if _, a := s.Does(0, api.Call{Op: api.Read, Handle: h(0, 1, i)}); a.Pair.A != uint64(i) {
			t.Fatalf("node %d: %+v", i, a)
		}
	}
}
