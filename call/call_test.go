package call

import (
	"fmt"
	"math"
	"slices"
	"strings"
	"testing"

	"burnbag/api"
	"burnbag/fail"
)

// op is what the chapter says of an op.
type op struct {
	number int
	word   string
	looks  bool
	part   int
}

// ops is all ops, as the chapter lists them.
func ops() []op {
	return []op{
		{0, "put", false, 0}, {1, "get", true, 0}, {2, "del", false, 0},
		{3, "store", false, 1}, {4, "fetch", true, 1}, {5, "drop", false, 1},
		{6, "push", false, 2}, {7, "pop", false, 2}, {8, "peek", true, 2},
		{9, "new", false, 3}, {10, "read", true, 3}, {11, "free", false, 3},
		{12, "tend", false, -1},
	}
}

// noOps is numbers that no op has.
func noOps() []int {
	return []int{-1, 13, 14, -2, -12, -13, 256, 1 << 32, 1<<32 + 1, -1 << 32, math.MaxInt - 1, math.MaxInt, math.MinInt, math.MinInt + 1}
}

// noLevels is numbers that no level has.
func noLevels() []int {
	return []int{-1, 4, 5, -3, 256, 1 << 32, 1<<32 + 1, -1 << 32, math.MaxInt, math.MinInt}
}

// noRegs is numbers that no Reg may be.
func noRegs() []int {
	return []int{-1, 41, 42, -40, 60, 256, 1 << 32, 1<<32 + 1, -1 << 32, math.MaxInt, math.MinInt}
}

// filled is a call with these numbers alone, and one that has all else, too: what isn't its op's doesn't matter.
func filled(op, level, reg int) []api.Call {
	return []api.Call{
		{Op: op, Level: level, Reg: reg},
		{Op: op, Level: level, Reg: reg, Key: math.MinInt64, Pair: api.Pair{A: math.MaxUint64, B: 1}, Handle: math.MaxUint64},
		{Op: op, Level: level, Reg: reg, Key: 5, Pair: api.Pair{A: 1, B: 2}, Handle: 3},
	}
}

// right is calls that may be: each op at each level, with Reg at its ends and between.
func right() []api.Call {
	var l []api.Call
	for op := 0; op <= 12; op++ {
		for level := 0; level <= 3; level++ {
			for _, reg := range []int{0, 1, 20, 39, 40} {
				l = append(l, filled(op, level, reg)...)
			}
		}
	}
	return l
}

// wrong is calls that may not be: each by one number alone, and some by more.
func wrong() []api.Call {
	var l []api.Call
	for _, op := range noOps() {
		l = append(l, filled(op, 0, 0)...)
		l = append(l, filled(op, 3, 40)...)
	}
	for op := 0; op <= 12; op++ {
		for _, level := range noLevels() {
			l = append(l, filled(op, level, 0)...)
		}
		for _, reg := range noRegs() {
			l = append(l, filled(op, 0, reg)...)
		}
	}
	return append(l, api.Call{Op: -1, Level: -1, Reg: -1}, api.Call{Op: 13, Level: 4, Reg: 41}, api.Call{Op: 1, Level: 4, Reg: 41})
}

// plain is a configuration of so many levels, with these threads' levels, and all else in its middle.
func plain(levels int, of ...int) api.Conf {
	f := api.Conf{Levels: levels, Threads: len(of), Slots: 9, Limbo: 7, Gens: 1000, Quota: 5}
	copy(f.Of[:], of)
	return f
}

// confs is configurations that may be.
func confs() []api.Conf {
	return []api.Conf{
		plain(1, 0),
		plain(2, 1),
		plain(2, 0, 1, 0),
		plain(3, 1, 1),
		plain(4, 0, 1, 2, 3, 3, 2, 1, 0),
		plain(4, 3),
		plain(4, 0),
		{Levels: 2, Threads: 1, Of: [8]int{1}, Slots: 2, Limbo: 1, Gens: 1},
		{Levels: 4, Threads: 2, Of: [8]int{2, 1}, Slots: 60, Limbo: 40, Gens: 1 << 20, Quota: 60},
	}
}

// noConfs is configurations that may not be, each by one number alone, but for the last one.
func noConfs() []api.Conf {
	var l []api.Conf
	add := func(change func(f *api.Conf)) {
		f := plain(3, 0, 1, 2, 2)
		change(&f)
		l = append(l, f)
	}
	for _, n := range []int{0, 2, 5, -1, math.MinInt, math.MaxInt} {
		add(func(f *api.Conf) { f.Levels = n })
	}
	for _, n := range []int{0, 3, 9, -1, math.MinInt, math.MaxInt} {
		add(func(f *api.Conf) { f.Threads = n })
	}
	for _, n := range []int{3, -1, math.MinInt, math.MaxInt} {
		add(func(f *api.Conf) { f.Of[3] = n })
	}
	add(func(f *api.Conf) { f.Of[4] = 1 })
	add(func(f *api.Conf) { f.Slots = 1 })
	add(func(f *api.Conf) { f.Slots = 61 })
	add(func(f *api.Conf) { f.Limbo = 0 })
	add(func(f *api.Conf) { f.Limbo = 41 })
	add(func(f *api.Conf) { f.Gens = 0 })
	add(func(f *api.Conf) { f.Gens = 1<<20 + 1 })
	add(func(f *api.Conf) { f.Quota = -1 })
	add(func(f *api.Conf) { f.Quota = 61 })
	return append(l, api.Conf{})
}

// threads is threads that there are, and such that there aren't.
func threads() []int {
	return []int{0, 1, 2, 3, 4, 5, 6, 7, 8, 9, -1, -2, 256, 1 << 32, 1<<32 + 1, math.MaxInt, math.MinInt}
}

// checkNo holds an answer of Policy against what it should be: an Error of that code, of that thread and the call's level, in the op's word.
func checkNo(t *testing.T, f api.Conf, thread int, c api.Call, code api.Errno) {
	t.Helper()
	word := ""
	if 0 <= c.Op && c.Op <= 12 {
		word = ops()[c.Op].word
	}
	e := Policy(f, thread, c)
	from, ok := e.(*fail.Error)
	if !ok || from == nil || *from != (fail.Error{Thread: thread, Level: c.Level, What: word, Inner: code}) {
		t.Errorf("%+v, thread %d, %+v: %v, not of code %v", f, thread, c, e, code)
		return
	}
	name := map[api.Errno]string{api.ErrBad: "bad", api.ErrPolicy: "policy"}[code]
	if text := fmt.Sprintf("thread %d level %d %s: %s", thread, c.Level, word, name); fail.Text(e) != text || fail.Code(e) != code {
		t.Errorf("%+v, thread %d, %+v: it tells %q, not %q", f, thread, c, fail.Text(e), text)
	}
}

// 9.1

func TestMay(t *testing.T) {
	for _, c := range right() {
		if !May(c) {
			t.Errorf("%+v may not be", c)
		}
	}
	for _, c := range wrong() {
		if May(c) {
			t.Errorf("%+v may be", c)
		}
	}
}

func TestMayEnds(t *testing.T) {
	for op := -2; op <= 15; op++ {
		for level := -2; level <= 6; level++ {
			for reg := -2; reg <= 43; reg++ {
				want := op >= 0 && op <= 12 && level >= 0 && level <= 3 && reg >= 0 && reg <= 40
				for _, c := range filled(op, level, reg) {
					if May(c) != want {
						t.Errorf("%+v: %v", c, !want)
					}
				}
			}
		}
	}
}

func TestLooksAndPart(t *testing.T) {
	for n, o := range ops() {
		if o.number != n {
			t.Fatalf("op %d stands at %d", o.number, n)
		}
		if Looks(n) != o.looks {
			t.Errorf("%s looks: %v", o.word, !o.looks)
		}
		if got := Part(n); got != o.part {
			t.Errorf("%s is of part %d, not %d", o.word, got, o.part)
		}
	}
	for _, n := range noOps() {
		if Looks(n) || Part(n) != -1 {
			t.Errorf("%d, that is no op: looks %v, is of part %d", n, Looks(n), Part(n))
		}
	}
}

func TestPolicy(t *testing.T) {
	for _, f := range confs() {
		for thread := range f.Threads {
			for _, c := range right() {
				own := f.Of[thread]
				if c.Level == own || c.Level < own && ops()[c.Op].looks {
					if e := Policy(f, thread, c); e != nil {
						t.Errorf("%+v, thread %d, %+v: %v", f, thread, c, e)
					}
					continue
				}
				checkNo(t, f, thread, c, api.ErrPolicy)
			}
		}
	}
}

func TestPolicyOfCallsThatMayNotBe(t *testing.T) {
	// ErrBad comes first: it is told also where the thread may not write, and where there is no thread.
	for _, f := range append(confs(), noConfs()...) {
		for _, thread := range threads() {
			for _, c := range wrong() {
				checkNo(t, f, thread, c, api.ErrBad)
			}
		}
	}
}

func TestPolicyOfThreadsWithoutLevel(t *testing.T) {
	for _, f := range confs() {
		for _, thread := range threads() {
			if thread >= 0 && thread < f.Threads {
				continue
			}
			for _, c := range right() {
				checkNo(t, f, thread, c, api.ErrBad)
			}
		}
	}
	for _, f := range noConfs() {
		for _, thread := range threads() {
			for _, c := range right() {
				checkNo(t, f, thread, c, api.ErrBad)
			}
		}
	}
}

func TestPolicyOfLevelsThatThereAreNot(t *testing.T) {
	// The call may be, but the configuration has no such level: nobody may do anything there.
	for o := 0; o <= 12; o++ {
		checkNo(t, plain(1, 0), 0, api.Call{Op: o, Level: 1}, api.ErrPolicy)
		checkNo(t, plain(1, 0), 0, api.Call{Op: o, Level: 3, Reg: 40}, api.ErrPolicy)
		checkNo(t, plain(3, 2, 0), 0, api.Call{Op: o, Level: 3}, api.ErrPolicy)
	}
}

// 9.2

func TestWords(t *testing.T) {
	for n, o := range ops() {
		if got := Word(n); got != o.word {
			t.Errorf("op %d is called %q, not %q", n, got, o.word)
		}
		if got, ok := Op(o.word); got != n || !ok {
			t.Errorf("%q is op %d, %v, not %d", o.word, got, ok, n)
		}
		if got, ok := Op(Word(n)); got != n || !ok {
			t.Errorf("op %d's word is op %d's, %v", n, got, ok)
		}
	}
	for _, n := range noOps() {
		if got := Word(n); got != "" {
			t.Errorf("%d, that is no op, is called %q", n, got)
		}
	}
}

func TestWordsThatAreNone(t *testing.T) {
	no := []string{"", " ", "\n", "\x00", "0", "1", "12", "-1", "pick", "stall", "wake", "kill", "conf", "call", "ok", "what", "sessions", "é", "\xff", "putget", "put get", strings.Repeat("put", 1000)}
	for _, o := range ops() {
		w := o.word
		no = append(no, strings.ToUpper(w), strings.ToUpper(w[:1])+w[1:], w+" ", " "+w, w+"\n", w+"\x00", w+"s", w+w, w[:len(w)-1], w[1:])
	}
	for _, w := range no {
		if got, ok := Op(w); got != 0 || ok {
			t.Errorf("%q is op %d, %v", w, got, ok)
		}
	}
}

// row is a row of the chapter's table: an op, a code, and what may be told with it. The numbers told as N are from least to most.
type row struct {
	op                int
	code              api.Errno
	pair, handle, key bool
	least, most       int
}

// rows is the chapter's table, a row for each code of each op, and two for what Store tells; ErrPolicy is of any op.
func rows() []row {
	l := []row{
		{op: 1, code: 0, pair: true}, {op: 4, code: 0, pair: true}, {op: 8, code: 0, pair: true},
		{op: 2, code: 0, pair: true}, {op: 5, code: 0, pair: true}, {op: 7, code: 0, pair: true},
		{op: 3, code: 0, least: 0, most: 1}, {op: 3, code: 0, least: 2, most: 2, key: true},
		{op: 9, code: 0, handle: true},
		{op: 10, code: 0, pair: true},
		{op: 12, code: 0, least: 0, most: math.MaxInt},
	}
	bare := [13][]api.Errno{
		{api.OK, api.ErrExists, api.ErrFull},
		{api.ErrNone, api.ErrRetry},
		{api.ErrNone, api.ErrLimbo},
		{api.ErrFull, api.ErrLimbo},
		{api.ErrNone, api.ErrRetry},
		{api.ErrNone, api.ErrLimbo},
		{api.OK, api.ErrFull},
		{api.ErrNone, api.ErrLimbo},
		{api.ErrNone, api.ErrRetry},
		{api.ErrFull, api.ErrQuota},
		{api.ErrStale, api.ErrRetry},
		{api.OK, api.ErrStale, api.ErrLimbo},
		{},
	}
	for op, codes := range bare {
		for _, code := range append(codes, api.ErrPolicy) {
			l = append(l, row{op: op, code: code})
		}
	}
	return l
}

// has tells whether an answer is as a row has it.
func (r row) has(op int, a api.Answer) bool {
	return r.op == op && r.code == a.Err &&
		(r.pair || a.Pair == api.Pair{}) &&
		r.handle == (a.Handle != 0) &&
		r.least <= a.N && a.N <= r.most &&
		(r.key || a.Key == 0)
}

// listed tells whether an answer is as any row of a table has it for an op.
func listed(table []row, op int, a api.Answer) bool {
	return slices.ContainsFunc(table, func(r row) bool { return r.has(op, a) })
}

// codes is the codes that package api lists, and others.
func codes() []api.Errno {
	l := []api.Errno{16, 17, -1, -8, -12, 256, 1 << 32, 1<<32 + 8, 1<<32 + 12, -1 << 32, math.MaxInt, math.MinInt}
	for code := api.OK; code <= api.ErrWorn; code++ {
		l = append(l, code)
	}
	return l
}

// answers is answers of a code, with each of what else they have being 0 and not, at edges and at the ends.
func answers(code api.Errno) []api.Answer {
	var l []api.Answer
	for _, pair := range []api.Pair{{}, {A: 1}, {B: 1}, {A: 7, B: 9}, {A: math.MaxUint64, B: math.MaxUint64}} {
		for _, handle := range []uint64{0, 1, 1 << 63, math.MaxUint64} {
			for _, n := range []int{0, 1, 2, 3, 4, 60, -1, -2, -3, 1 << 32, 1<<32 + 2, -1 << 32, math.MaxInt, math.MinInt} {
				for _, key := range []int64{0, 1, 5, -1, 1 << 32, math.MaxInt64, math.MinInt64} {
					l = append(l, api.Answer{Err: code, Pair: pair, Handle: handle, N: n, Key: key})
				}
			}
		}
	}
	return l
}

func TestFits(t *testing.T) {
	table := rows()
	for op := 0; op <= 12; op++ {
		for _, code := range codes() {
			for _, a := range answers(code) {
				if want := listed(table, op, a); Fits(api.Call{Op: op}, a) != want {
					t.Errorf("%s, %+v: %v", ops()[op].word, a, !want)
				}
			}
		}
	}
}

func TestFitsByHand(t *testing.T) {
	pair := api.Pair{A: 1, B: 2}
	cases := []struct {
		op   int
		a    api.Answer
		want bool
	}{
		{api.Put, api.Answer{}, true},
		{api.Put, api.Answer{Err: api.ErrExists}, true},
		{api.Put, api.Answer{Err: api.ErrLimbo}, false},
		{api.Put, api.Answer{Pair: pair}, false},
		{api.Push, api.Answer{Err: api.ErrExists}, false},
		{api.Push, api.Answer{Err: api.ErrFull}, true},
		{api.Get, api.Answer{Pair: pair}, true},
		{api.Get, api.Answer{}, true},
		{api.Get, api.Answer{Err: api.ErrNone, Pair: pair}, false},
		{api.Del, api.Answer{Err: api.ErrRetry}, false},
		{api.Store, api.Answer{N: 2, Key: 5}, true},
		{api.Store, api.Answer{N: 2}, true},
		{api.Store, api.Answer{N: 1, Key: 5}, false},
		{api.Store, api.Answer{N: 0, Key: 5}, false},
		{api.Store, api.Answer{N: -1}, false},
		{api.Store, api.Answer{N: -1, Key: 5}, false},
		{api.Store, api.Answer{N: 3}, false},
		{api.Store, api.Answer{N: 3, Key: 5}, false},
		{api.Store, api.Answer{Err: api.ErrFull, N: 2, Key: 5}, false},
		{api.New, api.Answer{Handle: 1}, true},
		{api.New, api.Answer{}, false},
		{api.New, api.Answer{Err: api.ErrQuota}, true},
		{api.New, api.Answer{Err: api.ErrQuota, Handle: 1}, false},
		{api.Read, api.Answer{Err: api.ErrStale}, true},
		{api.Read, api.Answer{Err: api.ErrNone}, false},
		{api.Free, api.Answer{}, true},
		{api.Free, api.Answer{Handle: 1}, false},
		{api.Tend, api.Answer{}, true},
		{api.Tend, api.Answer{N: math.MaxInt}, true},
		{api.Tend, api.Answer{N: -1}, false},
		{api.Tend, api.Answer{N: 2, Key: 5}, false},
		{api.Tend, api.Answer{Err: api.ErrLimbo}, false},
		{api.Tend, api.Answer{Err: api.ErrPolicy}, true},
		{api.Tend, api.Answer{Err: api.ErrPolicy, N: 1}, false},
	}
	for _, x := range cases {
		if Fits(api.Call{Op: x.op}, x.a) != x.want {
			t.Errorf("%s, %+v: %v", ops()[x.op].word, x.a, !x.want)
		}
	}
}

func TestFitsHangsOnTheOpAlone(t *testing.T) {
	// Of calls that may be: whatever else a call has, its op tells what it may be answered.
	table := rows()
	for _, c := range right() {
		for _, code := range codes() {
			for _, a := range []api.Answer{{Err: code}, {Err: code, Pair: api.Pair{A: 1, B: 2}}, {Err: code, Handle: 3}, {Err: code, N: 2}, {Err: code, N: 2, Key: 5}, {Err: code, Key: 5}} {
				if want := listed(table, c.Op, a); Fits(c, a) != want {
					t.Errorf("%+v, %+v: %v", c, a, !want)
				}
			}
		}
	}
}

func TestFitsOfCallsThatMayNotBe(t *testing.T) {
	for _, c := range wrong() {
		for _, code := range codes() {
			for _, a := range []api.Answer{{Err: code}, {Err: code, Pair: api.Pair{A: 1, B: 2}}, {Err: code, Handle: 3}, {Err: code, N: 2, Key: 5}} {
				if Fits(c, a) {
					t.Errorf("%+v, %+v: it fits", c, a)
				}
			}
		}
	}
}

func TestSame(t *testing.T) {
	l := []api.Answer{
		{},
		{Err: api.ErrFull}, {Err: -1}, {Err: math.MaxInt},
		{Pair: api.Pair{A: 1}}, {Pair: api.Pair{B: 1}}, {Pair: api.Pair{A: math.MaxUint64, B: 1}},
		{Handle: 1}, {Handle: 1 << 63}, {Handle: math.MaxUint64},
		{N: 1}, {N: -1}, {N: 1 << 32}, {N: math.MinInt},
		{Key: 1}, {Key: -1}, {Key: 1 << 32}, {Key: math.MinInt64},
		{Err: 1, Pair: api.Pair{A: 2, B: 3}, Handle: 4, N: 5, Key: 6},
		{Err: 2, Pair: api.Pair{A: 2, B: 3}, Handle: 4, N: 5, Key: 6},
		{Err: 1, Pair: api.Pair{A: 3, B: 3}, Handle: 4, N: 5, Key: 6},
		{Err: 1, Pair: api.Pair{A: 2, B: 2}, Handle: 4, N: 5, Key: 6},
		{Err: 1, Pair: api.Pair{A: 2, B: 3}, Handle: 5, N: 5, Key: 6},
		{Err: 1, Pair: api.Pair{A: 2, B: 3}, Handle: 4, N: 6, Key: 6},
		{Err: 1, Pair: api.Pair{A: 2, B: 3}, Handle: 4, N: 5, Key: 7},
	}
	for i, a := range l {
		for j, b := range l {
			if Same(a, b) != (i == j) {
				t.Errorf("%+v and %+v are the same: %v", a, b, i != j)
			}
		}
	}
}

// 9.3

func TestWhatFollows(t *testing.T) {
	for _, f := range append(confs(), noConfs()...) {
		for _, thread := range threads() {
			for op := -1; op <= 13; op++ {
				for level := -1; level <= 4; level++ {
					c := api.Call{Op: op, Level: level}
					if Policy(f, thread, c) != nil {
						continue
					}
					if thread < 0 || thread >= f.Threads {
						t.Fatalf("%+v: thread %d, that there isn't, may call %+v", f, thread, c)
					}
					own := f.Of[thread]
					if level > own || !Looks(op) && level != own {
						t.Errorf("%+v: thread %d, of level %d, may call %+v", f, thread, own, c)
					}
				}
			}
		}
	}
}

func TestNobodyChangesElsewhere(t *testing.T) {
	// One thread of each level: what each op of each one is told at each level, by hand.
	f := plain(4, 0, 1, 2, 3)
	for thread := 0; thread < 4; thread++ {
		for level := 0; level < 4; level++ {
			for _, o := range []int{api.Put, api.Del, api.Store, api.Drop, api.Push, api.Pop, api.New, api.Free, api.Tend} {
				if e := Policy(f, thread, api.Call{Op: o, Level: level}); (e == nil) != (level == thread) {
					t.Errorf("op %d of thread %d at level %d: %v", o, thread, level, e)
				}
			}
			for _, o := range []int{api.Get, api.Fetch, api.Peek, api.Read} {
				if e := Policy(f, thread, api.Call{Op: o, Level: level}); (e == nil) != (level <= thread) {
					t.Errorf("op %d of thread %d at level %d: %v", o, thread, level, e)
				}
			}
		}
	}
}

// Examples

func TestExamples(t *testing.T) {
	f := api.Conf{Levels: 2, Threads: 1, Of: [8]int{1}, Slots: 2, Limbo: 1, Gens: 1}
	if e := Policy(f, 0, api.Call{Op: api.Get}); e != nil {
		t.Errorf("Get at level 0: %v", e)
	}
	if e := Policy(f, 0, api.Call{Op: api.Put}); e == nil || e.Error() != "thread 0 level 0 put: policy" {
		t.Errorf("Put at level 0: %v", e)
	}
}
