package script

import (
	"errors"
	"math"
	"math/rand"
	"slices"
	"testing"

	"burnbag/api"
	"burnbag/fail"
)

// Codes, as tables have them.
const (
	none   = api.OK
	arg    = api.ErrArg
	ranged = api.ErrRange
	form   = api.ErrForm
	end    = api.ErrEnd
	long   = api.ErrLong
	wrong  = api.ErrBad
)

// levels is levels that there may be, and such as are below and above.
func levels() []int {
	return []int{math.MinInt, -2, -1, 0, 1, 2, 3, 4, 5, math.MaxInt}
}

// checkCode holds an error against the code that it must be of.
func checkCode(t *testing.T, about string, e error, want api.Errno) {
	t.Helper()
	if want == api.OK {
		if e != nil {
			t.Fatalf("%s: %v, of what is right", about, e)
		}
		return
	}
	if e == nil || fail.Code(e) != want || !errors.Is(e, want) {
		t.Fatalf("%s: %v, not %v", about, e, want)
	}
}

// checkScript holds what is told of a script against the model, and the script against what it was.
func checkScript(t *testing.T, about string, s api.Script) {
	t.Helper()
	part, asItWas := laidScript(s)
	for _, level := range levels() {
		e := Right(part, level)
		checkCode(t, about, e, rightness(s, level))
		if again := Right(twin(s), level); fail.Text(again) != fail.Text(e) {
			t.Fatalf("%s: level %d: %v and then %v", about, level, e, again)
		}
	}
	if got, want := Top(part), topOf(s); got != want {
		t.Fatalf("%s: the top is %d, not %d", about, got, want)
	}
	checkPut(t, about, part)
	if other := twin(s); !Same(part, other) || !Same(other, part) || !Same(part, part) {
		t.Fatalf("%s: not the same as itself", about)
	}
	if !asItWas() {
		t.Fatalf("%s: what was handed in isn't as it was", about)
	}
}

// checkPut holds the bytes of a script against the model, and what was read of them against the script.
func checkPut(t *testing.T, about string, s api.Script) {
	t.Helper()
	b, e := Put(s)
	code := rightness(s, 3)
	checkCode(t, about, e, code)
	if code != api.OK {
		if len(b) > 0 || fail.Text(e) != fail.Text(Right(s, s.Conf.Levels-1)) {
			t.Fatalf("%s: %d bytes, and %v, not %v", about, len(b), e, Right(s, s.Conf.Levels-1))
		}
		return
	}
	want := bytesOf(s)
	if !slices.Equal(b, want) {
		t.Fatalf("%s: the bytes are\n%v, not\n%v", about, b, want)
	}
	// What was answered is the caller's own, and changes nothing that is answered later.
	fill(b, 0xA5)
	if again, e := Put(s); !slices.Equal(again, want) || e != nil {
		t.Fatalf("%s: the bytes are later\n%v, %v", about, again, e)
	}
	if x, e := Take(want); e != nil || !Same(x, s) || !alike(x, s) {
		t.Fatalf("%s: what was written is read as\n%v, %v, and was\n%v", about, x, e, s)
	}
}

// checkBytes holds what is read of bytes against the model, and the bytes against what they were.
func checkBytes(t *testing.T, about string, b []byte) {
	t.Helper()
	whole, part := laid(b, 0, 0)
	was := slices.Clone(whole)
	want, code := taken(b)
	got, e := Take(part)
	checkCode(t, about, e, code)
	if !alike(got, want) {
		t.Fatalf("%s: read as\n%v, not\n%v", about, got, want)
	}
	if !slices.Equal(whole, was) {
		t.Fatalf("%s: what was handed in isn't as it was", about)
	}
	if code != api.OK {
		if !Same(got, api.Script{}) {
			t.Fatalf("%s: beside an error:\n%v", about, got)
		}
		return
	}
	checkScript(t, about, got)
	if again, e := Put(got); e != nil || !slices.Equal(again, b) {
		t.Fatalf("%s: what was read is written as\n%v, %v, and was\n%v", about, again, e, b)
	}
	// What is read is of new memory: it doesn't change when the bytes do, nor does one list when another one does, with all that lies behind it.
	fill(whole, 0xA5)
	if !alike(got, want) {
		t.Fatalf("%s: the script is\n%v, when the bytes are others, not\n%v", about, got, want)
	}
	for thread := range got.Programs {
		fill(got.Programs[thread], api.Call{Op: -7})
		got.Programs[thread] = slices.Clone(want.Programs[thread])
		if !alike(got, want) {
			t.Fatalf("%s: the script is\n%v, when the program of thread %d is another one, not\n%v", about, got, thread, want)
		}
	}
}

// fill has all of a list's places be one thing, and those that lie behind its length.
func fill[T any](l []T, thing T) {
	l = l[:cap(l)]
	for i := range l {
		l[i] = thing
	}
}

func TestExample(t *testing.T) {
	s := api.Script{Conf: api.Conf{Levels: 1, Threads: 1, Slots: 2, Limbo: 1, Gens: 1}, Entries: []api.Entry{{Thread: 0, What: api.Pick}}}
	want := []byte{1, 1, 0, 0, 0, 0, 0, 0, 0, 0, 2, 1, 1, 0, 0, 0, 0, 0}
	b, e := Put(s)
	if e != nil || !slices.Equal(b, want) {
		t.Errorf("the bytes are %v, %v, not %v", b, e, want)
	}
	x, e := Take(want)
	if e != nil || !Same(x, s) || !alike(x, s) {
		t.Errorf("read as %v, %v, not %v", x, e, s)
	}
	checkScript(t, "the example", s)
	checkBytes(t, "the example", want)
}

// 18.1: Right and Top

// slip is something that scripts break a rule by, from a level on.
type slip struct {
	about string
	code  api.Errno
	level int
	spoil func(s *api.Script)
}

// always is the level from which on a script isn't right, where no level plays a part.
const always = math.MinInt

// callSlips is slips of one thread's program, of the script that some is.
func callSlips(thread int) []slip {
	var l []slip
	level := some().Conf.Of[thread]
	for _, c := range noCalls() {
		l = append(l,
			slip{"the first call", api.ErrBad, level, func(s *api.Script) {
				s.Programs[thread] = append([]api.Call{c}, s.Programs[thread]...)
			}},
			slip{"the last call", api.ErrBad, level, func(s *api.Script) {
				s.Programs[thread] = append(slices.Clone(s.Programs[thread]), c)
			}},
			slip{"the last call of 40", api.ErrBad, level, func(s *api.Script) {
				s.Programs[thread] = append(calls(39), c)
			}},
			slip{"the only call", api.ErrBad, level, func(s *api.Script) {
				s.Programs[thread] = []api.Call{c}
			}})
	}
	for _, n := range []int{41, 42, 255, 256, 257, 256 + 40, 65536} {
		l = append(l, slip{"a long program", api.ErrLong, level, func(s *api.Script) { s.Programs[thread] = calls(n) }})
	}
	return l
}

// entrySlips is slips of one thread's entries, of the script that some is.
func entrySlips(thread int) []slip {
	var l []slip
	level := some().Conf.Of[thread]
	for _, what := range []int{math.MinInt, -256, -1, 4, 5, 32, 256, math.MaxInt} {
		e := api.Entry{Thread: thread, What: what}
		l = append(l,
			slip{"the first entry", api.ErrBad, level, func(s *api.Script) {
				s.Entries = append([]api.Entry{e}, s.Entries...)
			}},
			slip{"the last entry", api.ErrBad, level, func(s *api.Script) {
				s.Entries = append(slices.Clone(s.Entries), e)
			}},
			slip{"the only entry", api.ErrBad, level, func(s *api.Script) { s.Entries = []api.Entry{e} }})
	}
	return append(l, slip{"many entries", api.ErrLong, level, func(s *api.Script) { s.Entries = append(s.Entries, entries(60001, thread, 1)...) }})
}

// nobodySlips is slips of threads that there aren't, of the script that some is.
func nobodySlips() []slip {
	var l []slip
	for _, thread := range []int{5, 6, 7} {
		l = append(l,
			slip{"nobody's program", api.ErrArg, always, func(s *api.Script) { s.Programs[thread] = calls(1) }},
			slip{"nobody's program, of a call that may not be", api.ErrArg, always, func(s *api.Script) { s.Programs[thread] = noCalls()[:1] }},
			slip{"nobody's program, of many calls", api.ErrArg, always, func(s *api.Script) { s.Programs[thread] = calls(41) }})
	}
	for _, thread := range []int{math.MinInt, -8, -1, 5, 6, 7, 8, 9, 256, math.MaxInt} {
		for _, what := range []int{0, 3, -1, 4} {
			e := api.Entry{Thread: thread, What: what}
			l = append(l,
				slip{"nobody's entry, the first one", api.ErrArg, always, func(s *api.Script) { s.Entries = append([]api.Entry{e}, s.Entries...) }},
				slip{"nobody's entry, the last one", api.ErrArg, always, func(s *api.Script) { s.Entries = append(slices.Clone(s.Entries), e) }},
				slip{"nobody's entry, the only one", api.ErrArg, always, func(s *api.Script) { s.Entries = []api.Entry{e} }})
		}
	}
	return l
}

// confSlips is configurations that may not be.
func confSlips() []slip {
	var l []slip
	for _, f := range noConfs() {
		l = append(l, slip{"the configuration", api.ErrRange, always, func(s *api.Script) { s.Conf = f }})
	}
	return l
}

// slips is all of them.
func slips() []slip {
	l := append(confSlips(), nobodySlips()...)
	for thread := range some().Conf.Threads {
		l = append(append(l, callSlips(thread)...), entrySlips(thread)...)
	}
	return l
}

// checkSlips holds what is told of a script with some slips against the first code of these that applies.
func checkSlips(t *testing.T, l ...slip) {
	t.Helper()
	s, about := some(), ""
	for _, one := range l {
		one.spoil(&s)
		about += " " + one.about
	}
	for _, level := range levels() {
		want := api.OK
		for _, code := range slices.Backward(order()) {
			if slices.ContainsFunc(l, func(one slip) bool { return one.code == code && one.level <= level }) {
				want = code
			}
		}
		if got := rightness(s, level); got != want {
			t.Fatalf("the model:%s: level %d: %v, not %v", about, level, got, want)
		}
		checkCode(t, about, Right(s, level), want)
	}
	if got, want := Top(s), topOf(s); got != want {
		t.Fatalf("%s: the top is %d, not %d", about, got, want)
	}
}

func TestRight(t *testing.T) {
	full := some()
	for thread := range full.Conf.Threads {
		full.Programs[thread] = calls(40)
	}
	bare := some()
	bare.Programs, bare.Entries = [8][]api.Call{}, nil
	empty := some()
	for thread := range empty.Programs {
		empty.Programs[thread] = []api.Call{}
	}
	empty.Entries = []api.Entry{}
	one := some()
	one.Conf = api.Conf{Levels: 4, Threads: 8, Of: [8]int{3, 3, 3, 3, 3, 3, 3, 3}, Slots: 60, Limbo: 40, Gens: 1 << 20, Quota: 60}
	one.Programs[7] = edges()
	for _, s := range []api.Script{some(), full, bare, empty, one} {
		checkScript(t, "right", s)
		for _, level := range levels() {
			checkCode(t, "right", Right(s, level), api.OK)
		}
		if Top(s) != 3 {
			t.Errorf("right up to %d alone:\n%v", Top(s), s)
		}
	}
}

func TestRightOfOneSlip(t *testing.T) {
	for _, one := range slips() {
		checkSlips(t, one)
		s := some()
		one.spoil(&s)
		checkScript(t, one.about, s)
	}
}

func TestRightOfSomeSlips(t *testing.T) {
	r := rand.New(rand.NewSource(181))
	// Slips that leave each other be: those by which a list is only one thing long would take another one's away.
	l := slices.DeleteFunc(slips(), func(one slip) bool {
		s := some()
		one.spoil(&s)
		lost := len(s.Entries) < len(some().Entries)
		for thread, program := range some().Programs {
			lost = lost || len(s.Programs[thread]) < len(program)
		}
		return lost || one.about == "many entries" || one.about == "a long program" || one.about == "the last call of 40"
	})
	for thread := range 5 {
		l = append(l, slip{"a program that grew long", api.ErrLong, some().Conf.Of[thread], func(s *api.Script) {
			s.Programs[thread] = append(slices.Clone(s.Programs[thread]), calls(40)...)
		}})
	}
	for range 4000 {
		var both []slip
		for range 2 + r.Intn(3) {
			both = append(both, l[r.Intn(len(l))])
		}
		checkSlips(t, both...)
	}
}

func TestRightOfEachTwoCodes(t *testing.T) {
	for _, x := range []struct {
		about string
		spoil func(s *api.Script)
		codes [4]api.Errno
	}{
		{"a bad call behind the 40th", func(s *api.Script) { s.Programs[2] = append(calls(40), noCalls()[0]) }, [4]api.Errno{none, wrong, wrong, wrong}},
		{"a long program below a bad call", func(s *api.Script) { s.Programs[1], s.Programs[2] = calls(41), noCalls()[:1] }, [4]api.Errno{long, wrong, wrong, wrong}},
		{"a bad call below a long program", func(s *api.Script) { s.Programs[1], s.Programs[2] = noCalls()[:1], calls(41) }, [4]api.Errno{wrong, wrong, wrong, wrong}},
		{"a long program below a bad What", func(s *api.Script) {
			s.Programs[1], s.Entries = calls(41), append(s.Entries, api.Entry{Thread: 4, What: 4})
		}, [4]api.Errno{long, long, long, wrong}},
		{"many entries, and a bad What behind them", func(s *api.Script) {
			s.Entries = append(entries(60001, 2, 0), api.Entry{Thread: 0, What: -1})
		}, [4]api.Errno{none, long, wrong, wrong}},
		{"many entries, and a bad call", func(s *api.Script) { s.Entries, s.Programs[4] = entries(60001, 1, 0), noCalls()[:1] }, [4]api.Errno{long, long, long, wrong}},
		{"many entries, and nobody's", func(s *api.Script) { s.Entries = append(entries(60001, 1, 0), api.Entry{Thread: 5}) }, [4]api.Errno{arg, arg, arg, arg}},
		{"a bad call, and nobody's program", func(s *api.Script) { s.Programs[1], s.Programs[7] = noCalls()[:1], calls(1) }, [4]api.Errno{arg, arg, arg, arg}},
		{"a bad What, and nobody's entry behind it", func(s *api.Script) { s.Entries = []api.Entry{{Thread: 1, What: 4}, {Thread: -1}} }, [4]api.Errno{arg, arg, arg, arg}},
		{"nobody's program, and no configuration", func(s *api.Script) { s.Programs[7], s.Conf.Slots = calls(1), 1 }, [4]api.Errno{ranged, ranged, ranged, ranged}},
		{"a bad call, and no configuration", func(s *api.Script) { s.Programs[1], s.Conf.Quota = noCalls()[:1], 61 }, [4]api.Errno{ranged, ranged, ranged, ranged}},
		{"many entries, and no configuration", func(s *api.Script) { s.Entries, s.Conf.Gens = entries(60001, 1, 0), 0 }, [4]api.Errno{ranged, ranged, ranged, ranged}},
	} {
		s := some()
		x.spoil(&s)
		for level, code := range x.codes {
			checkCode(t, x.about, Right(s, level), code)
		}
		checkScript(t, x.about, s)
	}
}

func TestRightOfManyEntries(t *testing.T) {
	for _, x := range []struct {
		about   string
		entries []api.Entry
		codes   [4]api.Errno
		top     int
	}{
		{"60,000", entries(60000, 1, 3), [4]api.Errno{}, 3},
		{"one more", entries(60001, 1, 3), [4]api.Errno{long, long, long, long}, -1},
		{"60,000 of two threads", append(entries(30000, 1, 0), entries(30000, 3, 0)...), [4]api.Errno{}, 3},
		{"one more, of two threads", append(entries(30000, 1, 0), entries(30001, 3, 0)...), [4]api.Errno{long, long, long, long}, -1},
		{"one more, of the next level", append(entries(60000, 1, 0), entries(1, 2, 0)...), [4]api.Errno{none, long, long, long}, 0},
		{"one more, of the next level, ahead", append(entries(1, 2, 0), entries(60000, 1, 0)...), [4]api.Errno{none, long, long, long}, 0},
		{"one more, of the highest level", append(entries(60000, 0, 0), entries(1, 4, 0)...), [4]api.Errno{none, none, none, long}, 2},
		{"all of the highest level", entries(60000, 4, 2), [4]api.Errno{}, 3},
		{"many of the highest level", entries(70000, 4, 2), [4]api.Errno{none, none, none, long}, 2},
		{"many of the highest level, and some below", slices.Concat(entries(70000, 4, 2), entries(60000, 1, 1), entries(1, 0, 0)), [4]api.Errno{none, none, long, long}, 1},
		{"many of each level", slices.Concat(entries(20000, 1, 0), entries(20000, 2, 0), entries(20000, 0, 0), entries(20000, 4, 0)), [4]api.Errno{none, none, none, long}, 2},
	} {
		s := some()
		s.Entries = x.entries
		for level, code := range x.codes {
			checkCode(t, x.about, Right(s, level), code)
		}
		checkCode(t, x.about, Right(s, -1), api.OK)
		checkCode(t, x.about, Right(s, 9), x.codes[3])
		if Top(s) != x.top {
			t.Errorf("%s: the top is %d, not %d", x.about, Top(s), x.top)
		}
		checkScript(t, x.about, s)
	}
}

func TestTop(t *testing.T) {
	for thread, level := range []int{2, 0, 1, 0, 3} {
		for _, one := range append(callSlips(thread), entrySlips(thread)...) {
			s := some()
			one.spoil(&s)
			if Top(s) != level-1 {
				t.Errorf("%s of thread %d: the top is %d, not %d", one.about, thread, Top(s), level-1)
			}
		}
	}
	for _, one := range append(nobodySlips(), confSlips()...) {
		s := some()
		one.spoil(&s)
		if Top(s) != -1 {
			t.Errorf("%s: the top is %d, of %v", one.about, Top(s), s.Conf)
		}
	}
	if Top(api.Script{}) != -1 {
		t.Errorf("the top of no script is %d", Top(api.Script{}))
	}
	for n := 1; n <= 4; n++ {
		// The highest level is told, of those that there are, whether or not a thread is there.
		s := api.Script{Conf: threads(n, 0)}
		if Top(s) != n-1 {
			t.Errorf("of %d levels the top is %d", n, Top(s))
		}
		checkScript(t, "one thread", s)
		s.Programs[0] = noCalls()[:1]
		if Top(s) != -1 {
			t.Errorf("of %d levels, with a slip at level 0, the top is %d", n, Top(s))
		}
	}
}

// What hangs on levels above plays no part (18.3).
func TestRightDoesNotHangOnWhatIsAbove(t *testing.T) {
	r := rand.New(rand.NewSource(183))
	for range 3000 {
		s := anyScript(r)
		for range r.Intn(3) {
			spoil(r, &s)
		}
		other := twin(s)
		level := r.Intn(4)
		if mayConf(s.Conf) {
			for thread := range s.Conf.Threads {
				if s.Conf.Of[thread] > level {
					other.Programs[thread] = append(slices.Clone(noCalls()), calls(r.Intn(99))...)
					other.Entries = slices.Insert(other.Entries, r.Intn(len(other.Entries)+1), entries(r.Intn(9), thread, r.Intn(9)-4)...)
				}
			}
		}
		a, b := Right(s, level), Right(other, level)
		if fail.Text(a) != fail.Text(b) {
			t.Fatalf("up to level %d: %v and %v, of\n%v and\n%v", level, a, b, s, other)
		}
	}
}

// 18.2: Put, Take and Same

func TestPut(t *testing.T) {
	s := api.Script{Conf: api.Conf{Levels: 4, Threads: 3, Of: [8]int{3, 1, 2}, Slots: 60, Limbo: 40, Gens: 0x0A0B0C, Quota: 59}}
	s.Programs[1] = []api.Call{edges()[2], edges()[1]}
	s.Entries = []api.Entry{{Thread: 0, What: 0}, {Thread: 2, What: 0}, {Thread: 0, What: 1}, {Thread: 1, What: 2}, {Thread: 2, What: 3}}
	want := slices.Concat(
		[]byte{4, 3, 3, 1, 2, 0, 0, 0, 0, 0, 60, 40, 0x0C, 0x0B, 0x0A, 59},
		[]byte{0, 2},
		[]byte{10, 1, 2},
		[]byte{8, 7, 6, 5, 4, 3, 2, 1},
		[]byte{0x18, 0x17, 0x16, 0x15, 0x14, 0x13, 0x12, 0x11},
		[]byte{0x28, 0x27, 0x26, 0x25, 0x24, 0x23, 0x22, 0x21},
		[]byte{0x38, 0x37, 0x36, 0x35, 0x34, 0x33, 0x32, 0x31},
		[]byte{12, 3, 40},
		slices.Repeat([]byte{255}, 32),
		[]byte{0},
		[]byte{0, 2, 8, 17, 26},
	)
	b, e := Put(s)
	if e != nil || !slices.Equal(b, want) {
		t.Errorf("the bytes are\n%v, %v, not\n%v", b, e, want)
	}
	x, e := Take(want)
	if e != nil || !alike(x, s) || !Same(x, s) {
		t.Errorf("the script is\n%v, %v, not\n%v", x, e, s)
	}
	checkScript(t, "each place", s)
	checkBytes(t, "each place", want)
}

func TestPutOfEachNumber(t *testing.T) {
	for _, c := range edges() {
		s := api.Script{Conf: threads(1, 0)}
		s.Programs[0] = []api.Call{c}
		checkScript(t, "a call", s)
	}
	for _, gens := range []int{1, 2, 255, 256, 257, 65535, 65536, 65537, 1<<20 - 1, 1 << 20} {
		s := api.Script{Conf: threads(2, 0, 1)}
		s.Conf.Gens = gens
		checkScript(t, "generations", s)
	}
	for thread := range 8 {
		for what := range 4 {
			s := api.Script{Conf: threads(4, 0, 1, 2, 3, 3, 2, 1, 0)}
			s.Entries = entries(3, thread, what)
			s.Programs[thread] = calls(3)
			checkScript(t, "an entry", s)
		}
	}
	for _, n := range []int{0, 1, 39, 40} {
		s := some()
		s.Programs[3] = calls(n)
		checkScript(t, "a program", s)
	}
}

// ahead is the bytes of a configuration of some levels and threads, all of which are at the lowest level.
func ahead(levels, threads int) []byte {
	return []byte{byte(levels), byte(threads), 0, 0, 0, 0, 0, 0, 0, 0, 2, 1, 1, 0, 0, 0}
}

// rawCall is the bytes of a call, whether or not it may be.
func rawCall(op, level, reg byte) []byte {
	return append([]byte{op, level, reg}, slices.Repeat([]byte{7}, 32)...)
}

func TestTake(t *testing.T) {
	good, bad := rawCall(12, 3, 40), rawCall(13, 0, 0)
	for _, x := range []struct {
		about string
		b     []byte
		code  api.Errno
	}{
		{"no bytes", nil, end},
		{"no bytes, not nil", []byte{}, end},
		{"one byte", []byte{1}, end},
		{"a configuration but for a byte", ahead(1, 1)[:15], end},
		{"a configuration that may not be, but for a byte", ahead(9, 1)[:15], end},
		{"a configuration", ahead(1, 1), end},
		{"a configuration that may not be", ahead(0, 1), ranged},
		{"a configuration that may not be, and an end too soon", ahead(5, 8), ranged},
		{"a configuration that may not be, and a long program", append(ahead(1, 0), 41), ranged},
		{"a configuration that may not be, and a bad call", slices.Concat(ahead(1, 9), []byte{1}, bad), ranged},
		{"a configuration that may not be, and a bad entry", append(ahead(255, 1), 0, 255), ranged},
		{"a program", append(ahead(1, 1), 0), none},
		{"one program of two", append(ahead(1, 2), 0), end},
		{"one program of eight", append(ahead(1, 8), 0, 0, 0, 0, 0, 0, 0), end},
		{"eight programs", append(ahead(4, 8), 0, 0, 0, 0, 0, 0, 0, 0), none},
		{"a program of 40, and none of them", append(ahead(1, 1), 40), end},
		{"a program of 41, and none of them", append(ahead(1, 1), 41), long},
		{"a program of 255", append(ahead(1, 1), 255), long},
		{"a program of 40", slices.Concat(ahead(1, 1), []byte{40}, slices.Repeat(good, 40)), none},
		{"a program of 40, but for a byte", slices.Concat(ahead(1, 1), []byte{40}, slices.Repeat(good, 40)[:1399]), end},
		{"a program of 41", slices.Concat(ahead(1, 1), []byte{41}, slices.Repeat(good, 41)), long},
		{"a program of 41, of bad calls", slices.Concat(ahead(1, 1), []byte{41}, slices.Repeat(bad, 41)), long},
		{"the second one's program of 41", append(ahead(1, 2), 0, 41), long},
		{"the second one's program of 41, behind a bad call", slices.Concat(ahead(1, 2), []byte{1}, bad, []byte{41}), wrong},
		{"the second one's program of 41, behind a call", slices.Concat(ahead(1, 2), []byte{1}, good, []byte{41}), long},
		{"a bad call", slices.Concat(ahead(1, 1), []byte{1}, bad), wrong},
		{"a bad call but for a byte", slices.Concat(ahead(1, 1), []byte{1}, bad[:34]), end},
		{"a bad call, and an end too soon", slices.Concat(ahead(1, 1), []byte{2}, bad, good[:9]), wrong},
		{"a call, and an end too soon", slices.Concat(ahead(1, 1), []byte{2}, good, bad[:9]), end},
		{"a bad call behind another one", slices.Concat(ahead(1, 1), []byte{2}, good, bad), wrong},
		{"a bad call, and a bad entry", slices.Concat(ahead(1, 1), []byte{1}, bad, []byte{255}), wrong},
		{"a bad level", slices.Concat(ahead(4, 1), []byte{1}, rawCall(0, 4, 0)), wrong},
		{"a bad register", slices.Concat(ahead(4, 1), []byte{1}, rawCall(0, 0, 41)), wrong},
		{"an op of 255", slices.Concat(ahead(4, 1), []byte{1}, rawCall(255, 0, 0)), wrong},
		{"a level of 255", slices.Concat(ahead(4, 1), []byte{1}, rawCall(0, 255, 0)), wrong},
		{"a register of 255", slices.Concat(ahead(4, 1), []byte{1}, rawCall(0, 0, 255)), wrong},
		{"an entry", append(ahead(1, 1), 0, 24), none},
		{"an entry of a thread that there isn't", append(ahead(1, 1), 0, 1), form},
		{"an entry of the last thread", append(ahead(1, 2), 0, 0, 25), none},
		{"an entry of one more", append(ahead(1, 2), 0, 0, 26), form},
		{"an entry of the last thread of eight", append(ahead(4, 8), 0, 0, 0, 0, 0, 0, 0, 0, 31), none},
		{"an entry with bit 5", append(ahead(4, 8), 0, 0, 0, 0, 0, 0, 0, 0, 32), form},
		{"an entry with bit 6", append(ahead(1, 1), 0, 64), form},
		{"an entry with bit 7", append(ahead(1, 1), 0, 128), form},
		{"a bad entry behind some", append(ahead(1, 1), 0, 0, 8, 16, 32), form},
		{"a bad entry ahead of some", append(ahead(1, 1), 0, 2, 8, 16, 0), form},
		{"60,000 entries", append(append(ahead(1, 1), 0), make([]byte, 60000)...), none},
		{"one more", append(append(ahead(1, 1), 0), make([]byte, 60001)...), long},
		{"many more", append(append(ahead(1, 1), 0), make([]byte, 90000)...), long},
		{"one more, which is bad", append(append(append(ahead(1, 1), 0), make([]byte, 60000)...), 255), long},
		{"one more, and the last one ahead is bad", append(append(append(ahead(1, 1), 0), make([]byte, 59999)...), 255, 0), form},
		{"one more, and the first one is bad", append(append(ahead(1, 1), 0, 255), make([]byte, 60000)...), form},
	} {
		_, e := Take(x.b)
		checkCode(t, x.about, e, x.code)
		checkBytes(t, x.about, x.b)
	}
}

func TestTakeOfWhatEndsTooSoon(t *testing.T) {
	s := some()
	b, e := Put(s)
	if e != nil {
		t.Fatal(e)
	}
	programs := len(b) - len(s.Entries)
	for n := range len(b) + 1 {
		want := none
		if n < programs {
			want = end
		}
		x, e := Take(b[:n:n])
		checkCode(t, "ended", e, want)
		if want == none {
			s.Entries = some().Entries[:n-programs]
		} else {
			s = api.Script{}
		}
		if !alike(x, s) {
			t.Fatalf("of %d bytes: %v, not %v", n, x, s)
		}
		checkBytes(t, "ended", b[:n])
		if s = some(); n > 16 {
			checkCode(t, "ended, of a configuration that may not be", second(Take(append([]byte{5}, b[1:n]...))), ranged)
		}
	}
}

// second is the error of what Take answers.
func second(_ api.Script, e error) error {
	return e
}

// Each byte of a configuration is told, whatever it is.
func TestTakeOfEachByte(t *testing.T) {
	s := some()
	for thread := range s.Programs {
		s.Programs[thread] = s.Programs[thread][:min(1, len(s.Programs[thread]))]
	}
	b := bytesOf(s)
	for place := range b {
		for n := range 256 {
			other := slices.Clone(b)
			other[place] = byte(n)
			checkBytes(t, "another byte", other)
		}
	}
}

func TestTakeOfAnyBytes(t *testing.T) {
	r := rand.New(rand.NewSource(182))
	for range 20000 {
		b := make([]byte, r.Intn(60))
		r.Read(b)
		if r.Intn(2) == 0 {
			copy(b, ahead(1+r.Intn(4), 1+r.Intn(3)))
		}
		checkBytes(t, "any bytes", b)
	}
}

// sames is scripts each of which differs from the script that some is at one place.
func sames() []api.Script {
	var l []api.Script
	add := func(change func(s *api.Script)) {
		s := twin(some())
		change(&s)
		l = append(l, s)
	}
	add(func(s *api.Script) { s.Conf.Levels = 3 })
	add(func(s *api.Script) { s.Conf.Threads = 6 })
	for thread := range 8 {
		add(func(s *api.Script) { s.Conf.Of[thread] += 7 })
		add(func(s *api.Script) { s.Programs[thread] = append(s.Programs[thread], api.Call{}) })
		add(func(s *api.Script) { s.Programs[thread] = append([]api.Call{{Op: 1}}, s.Programs[thread]...) })
	}
	add(func(s *api.Script) { s.Conf.Slots++ })
	add(func(s *api.Script) { s.Conf.Limbo++ })
	add(func(s *api.Script) { s.Conf.Gens++ })
	add(func(s *api.Script) { s.Conf.Quota++ })
	for thread := range 5 {
		add(func(s *api.Script) { s.Programs[thread] = s.Programs[thread][1:] })
		add(func(s *api.Script) { s.Programs[thread] = s.Programs[thread][:len(s.Programs[thread])-1] })
		add(func(s *api.Script) { s.Programs[thread] = nil })
		add(func(s *api.Script) { slices.Reverse(s.Programs[thread]) })
		for i := range some().Programs[thread] {
			for _, change := range []func(c *api.Call){
				func(c *api.Call) { c.Op = -1 },
				func(c *api.Call) { c.Level += 4 },
				func(c *api.Call) { c.Key ^= 1 << 62 },
				func(c *api.Call) { c.Pair.A ^= 1 << 63 },
				func(c *api.Call) { c.Pair.B ^= 1 },
				func(c *api.Call) { c.Handle ^= 1 << 40 },
				func(c *api.Call) { c.Reg += 1 },
			} {
				add(func(s *api.Script) { change(&s.Programs[thread][i]) })
			}
		}
	}
	add(func(s *api.Script) { s.Programs[0], s.Programs[1] = s.Programs[1], s.Programs[0] })
	add(func(s *api.Script) { s.Programs[4], s.Programs[7] = nil, s.Programs[4] })
	for i := range some().Entries {
		add(func(s *api.Script) { s.Entries[i].Thread += 8 })
		add(func(s *api.Script) { s.Entries[i].What -= 4 })
		add(func(s *api.Script) { s.Entries = slices.Delete(s.Entries, i, i+1) })
		add(func(s *api.Script) { s.Entries = slices.Insert(s.Entries, i, api.Entry{Thread: 9}) })
	}
	add(func(s *api.Script) { s.Entries = append(s.Entries, api.Entry{}) })
	add(func(s *api.Script) { s.Entries = nil })
	add(func(s *api.Script) { slices.Reverse(s.Entries) })
	return l
}

func TestSame(t *testing.T) {
	var l, others []api.Script
	var asTheyWere []func() bool
	for _, s := range append(sames(), some(), api.Script{}) {
		one, asItWas := laidScript(s)
		other, asThatWas := laidScript(twin(s))
		l, others = append(l, one), append(others, other)
		asTheyWere = append(asTheyWere, asItWas, asThatWas)
	}
	for i, a := range l {
		for j, b := range others {
			if Same(a, b) != (i == j) {
				t.Fatalf("the same: %v, of\n%v and\n%v", i != j, a, b)
			}
		}
	}
	for _, asItWas := range asTheyWere {
		if !asItWas() {
			t.Fatal("what was handed in isn't as it was")
		}
	}
}

func TestSameOfNilAndEmpty(t *testing.T) {
	a, b := some(), some()
	for thread := 5; thread < 8; thread++ {
		b.Programs[thread] = []api.Call{}
	}
	a.Entries, b.Entries = nil, []api.Entry{}
	if !Same(a, b) || !Same(b, a) {
		t.Error("an empty list isn't as nil")
	}
	if !Same(api.Script{}, api.Script{Entries: []api.Entry{}}) {
		t.Error("an empty script isn't as one of no entries")
	}
}

// 18.3: what follows

func TestWhatFollows(t *testing.T) {
	r := rand.New(rand.NewSource(1830))
	for range 4000 {
		s := anyScript(r)
		if Top(s) != s.Conf.Levels-1 {
			t.Fatalf("right up to %d alone:\n%v", Top(s), s)
		}
		checkScript(t, "any script", s)
		b, e := Put(s)
		if e != nil {
			t.Fatal(e)
		}
		checkBytes(t, "of any script", b)
		// Other bytes than these are refused, or are another script.
		for range r.Intn(3) {
			place := r.Intn(len(b))
			b[place] ^= byte(1 << r.Intn(8))
		}
		if r.Intn(3) == 0 {
			b = b[:r.Intn(len(b)+1)]
		}
		checkBytes(t, "near any script", b)
		for range 1 + r.Intn(3) {
			spoil(r, &s)
		}
		checkScript(t, "near a script", s)
	}
}
