package fail

import (
	"errors"
	"fmt"
	"math"
	"strings"
	"testing"

	"burnbag/api"
)

// named is the codes that package api lists, by their numbers, and what they are called.
func named() []string {
	return []string{"ok", "arg", "range", "form", "end", "long", "none", "exists", "full", "limbo", "quota", "stale", "policy", "retry", "bad", "worn"}
}

// unlisted is codes that package api doesn't list.
func unlisted() []api.Errno {
	return []api.Errno{math.MinInt, math.MinInt + 8, -1 << 32, -1<<32 + 8, -256, -16, -15, -8, -2, -1, 16, 17, 24, 32, 255, 256, 264, 1 << 32, 1<<32 + 8, math.MaxInt - 1, math.MaxInt}
}

// codes is all codes that are tried, but OK.
func codes() []api.Errno {
	l := unlisted()
	for n := 1; n < len(named()); n++ {
		l = append(l, api.Errno(n))
	}
	return l
}

// called is what a code is called.
func called(code api.Errno) string {
	if code >= 0 && int(code) < len(named()) {
		return named()[code]
	}
	return "what"
}

// numbers is threads and levels: those that there are, others, below 0, and at the ends of int.
func numbers() []int {
	return []int{0, 1, 2, 3, 4, 7, 8, 9, 10, 60, 100, 1 << 32, math.MaxInt - 1, math.MaxInt, -1, -2, -8, -10, -1 << 32, math.MinInt + 1, math.MinInt}
}

// whats is what errors are in, and what notes are about.
func whats() []string {
	return []string{"", " ", ":", ": ", "put", "Put 5 1 2", "a\nb", "thread 1 level 0 put: full", "é\x00\xff"}
}

// want is what is told of an error.
type want struct {
	code          api.Errno
	none          bool // it is of no code
	thread, level int
	from          bool
	deep          int
	text          string
}

// check holds what is told of an error against what should be, and it against each code. That it is asked must change nothing, so it is asked twice.
func check(t *testing.T, about string, e error, w want) {
	t.Helper()
	for range 2 {
		if got := Code(e); got != w.code {
			t.Errorf("%s: its code is %d, not %d", about, got, w.code)
		}
		for _, code := range append(codes(), api.OK) {
			if got, right := Is(e, code), code == w.code && !w.none; got != right {
				t.Errorf("%s: that it is of code %d: %v", about, code, got)
			}
		}
		if thread, level, ok := Where(e); thread != w.thread || level != w.level || ok != w.from {
			t.Errorf("%s: it is from %d %d %v, not from %d %d %v", about, thread, level, ok, w.thread, w.level, w.from)
		}
		if got := Deep(e); got != w.deep {
			t.Errorf("%s: it wraps %d, not %d", about, got, w.deep)
		}
		if got := Text(e); got != w.text {
			t.Errorf("%s: it tells %q, not %q", about, got, w.text)
		}
		if e != nil && e.Error() != w.text {
			t.Errorf("%s: its Error tells %q, not %q", about, e.Error(), w.text)
		}
	}
}

// box is an error of another make, that wraps one.
type box struct{ inner error }

func (b box) Error() string { return "box of " + Text(b.inner) }
func (b box) Unwrap() error { return b.inner }

// list is an error of another make, that can't be compared, and wraps none.
type list []int

func (l list) Error() string { return "list" }

// part is an Error by a name under which it can be embedded beside its own method.
type part = Error

// more is an error of another make, with an Error as a part.
type more struct{ *part }

// 8.1

func TestNewTellsItsCodeAndItsPlace(t *testing.T) {
	for _, code := range codes() {
		check(t, "of a code", New(3, 2, "get", code), want{code: code, thread: 3, level: 2, from: true, deep: 1, text: "thread 3 level 2 get: " + called(code)})
	}
	for _, thread := range numbers() {
		for _, level := range numbers() {
			text := fmt.Sprintf("thread %d level %d pop: stale", thread, level)
			check(t, text, New(thread, level, "pop", api.ErrStale), want{code: api.ErrStale, thread: thread, level: level, from: true, deep: 1, text: text})
		}
	}
	for _, what := range whats() {
		check(t, what, New(0, 1, what, api.ErrRange), want{code: api.ErrRange, thread: 0, level: 1, from: true, deep: 1, text: "thread 0 level 1 " + what + ": range"})
	}
}

func TestNewIsAnError(t *testing.T) {
	for _, code := range codes() {
		e, ok := New(-5, 7, "drop", code).(*Error)
		if !ok || *e != (Error{Thread: -5, Level: 7, What: "drop", Inner: code}) || e.Unwrap() != error(code) {
			t.Errorf("code %d: %+v", code, e)
		}
	}
	a, b := New(1, 1, "x", api.ErrArg).(*Error), New(1, 1, "x", api.ErrArg)
	a.Thread, a.Inner = 9, api.ErrEnd
	check(t, "made alike, behind a change of the other one", b, want{code: api.ErrArg, thread: 1, level: 1, from: true, deep: 1, text: "thread 1 level 1 x: arg"})
}

func TestNewOfOK(t *testing.T) {
	for _, n := range numbers() {
		for _, what := range whats() {
			if e := New(n, n, what, api.OK); e != nil {
				t.Errorf("%d %q: %v", n, what, e)
			}
		}
	}
}

func TestNote(t *testing.T) {
	for _, about := range whats() {
		for _, code := range codes() {
			e := New(1, 0, "put", code)
			n := Note(about, e)
			check(t, about, n, want{code: code, thread: 1, level: 0, from: true, deep: 2, text: about + ": thread 1 level 0 put: " + called(code)})
			check(t, "what was noted", e, want{code: code, thread: 1, level: 0, from: true, deep: 1, text: "thread 1 level 0 put: " + called(code)})
			if errors.Unwrap(n) != e || !errors.Is(n, e) {
				t.Errorf("%q: it wraps another error", about)
			}
			check(t, "a code's note", Note(about, code), want{code: code, deep: 1, text: about + ": " + called(code)})
		}
		if e := Note(about, nil); e != nil {
			t.Errorf("%q: nil's note is %v", about, e)
		}
		if e := Note(about, New(1, 0, about, api.OK)); e != nil {
			t.Errorf("%q: the note of what is OK is %v", about, e)
		}
	}
}

func TestNotesAreTheirOwn(t *testing.T) {
	e := New(1, 0, "put", api.ErrFull)
	a, b := Note("a", e), Note("b", e)
	if a.Error() != "a: thread 1 level 0 put: full" || b.Error() != "b: thread 1 level 0 put: full" {
		t.Errorf("%q and %q", a, b)
	}
	// That what is noted can't be compared doesn't matter to who holds notes against each other.
	u := Note("u", list{1})
	if !errors.Is(Note("v", u), u) || errors.Is(u, Note("u", list{1})) {
		t.Error("a note isn't itself")
	}
}

func TestCodesThemselves(t *testing.T) {
	for _, code := range append(codes(), api.OK) {
		check(t, "a code", code, want{code: code, text: called(code)})
	}
	check(t, "OK within an Error", &Error{What: "x", Inner: api.OK}, want{code: api.OK, from: true, deep: 1, text: "thread 0 level 0 x: ok"})
}

func TestNil(t *testing.T) {
	check(t, "nil", nil, want{text: "ok"})
	if !Is(nil, api.OK) || Is(nil, api.ErrBad) || Is(nil, -1) || Is(nil, 16) {
		t.Error("nil is of another code than OK")
	}
}

func TestNilError(t *testing.T) {
	var e *Error
	if e.Error() != "ok" || e.Unwrap() != nil {
		t.Errorf("it tells %q, and wraps %v", e.Error(), e.Unwrap())
	}
	check(t, "a nil Error", e, want{code: api.ErrBad, none: true, text: "ok"})
	n := Note("about", e)
	check(t, "its note", n, want{code: api.ErrBad, none: true, deep: 1, text: "about: ok"})
	check(t, "its note's note", Note("", n), want{code: api.ErrBad, none: true, deep: 2, text: ": about: ok"})
	check(t, "an Error around it", &Error{4, 3, "free", e}, want{code: api.ErrBad, none: true, thread: 4, level: 3, from: true, deep: 1, text: "thread 4 level 3 free: ok"})
	check(t, "a box of it", box{e}, want{code: api.ErrBad, none: true, deep: 1, text: "box of ok"})
}

func TestErrorThatWrapsNothing(t *testing.T) {
	e := &Error{Thread: -1, Level: 3, What: "new"}
	check(t, "an Error that wraps nothing", e, want{code: api.ErrBad, none: true, thread: -1, level: 3, from: true, text: "thread -1 level 3 new: ok"})
	check(t, "its note", Note("n", e), want{code: api.ErrBad, none: true, thread: -1, level: 3, from: true, deep: 1, text: "n: thread -1 level 3 new: ok"})
	check(t, "an Error of noughts", &Error{}, want{code: api.ErrBad, none: true, from: true, text: "thread 0 level 0 : ok"})
}

func TestErrorsOfNoCode(t *testing.T) {
	for _, about := range whats() {
		e := errors.New(about)
		check(t, about, e, want{code: api.ErrBad, none: true, text: about})
		check(t, "its note", Note("n", e), want{code: api.ErrBad, none: true, deep: 1, text: "n: " + about})
		check(t, "an Error around it", &Error{2, 1, "tend", e}, want{code: api.ErrBad, none: true, thread: 2, level: 1, from: true, deep: 1, text: "thread 2 level 1 tend: " + about})
	}
	check(t, "what can't be compared", list{1, 2}, want{code: api.ErrBad, none: true, text: "list"})
	check(t, "its note", Note("n", list{}), want{code: api.ErrBad, none: true, deep: 1, text: "n: list"})
	// What a code is called doesn't make an error one of it.
	for _, name := range named() {
		check(t, name, errors.New(name), want{code: api.ErrBad, none: true, text: name})
	}
}

func TestErrorsOfAnotherMake(t *testing.T) {
	e := New(1, 0, "put", api.ErrFull)
	w := want{code: api.ErrFull, thread: 1, level: 0, from: true, deep: 2, text: "box of thread 1 level 0 put: full"}
	check(t, "a box", box{e}, w)
	w.deep, w.text = 3, "n: box of thread 1 level 0 put: full"
	check(t, "its note", Note("n", box{e}), w)
	w.deep, w.text = 3, "box of n: thread 1 level 0 put: full"
	check(t, "a box of a note", box{Note("n", e)}, w)
	w.deep, w.text = 2, "wrapped thread 1 level 0 put: full!"
	check(t, "the library's", fmt.Errorf("wrapped %w!", e), w)
	check(t, "a box of a code", box{api.ErrWorn}, want{code: api.ErrWorn, deep: 1, text: "box of worn"})
	check(t, "a box of nothing", box{}, want{code: api.ErrBad, none: true, text: "box of ok"})
	check(t, "with an Error as a part", more{e.(*Error)}, want{code: api.ErrFull, deep: 1, text: "thread 1 level 0 put: full"})
}

func TestWhereIsTheOutermostError(t *testing.T) {
	inner := New(1, 0, "put", api.ErrFull)
	for _, thread := range numbers() {
		for _, level := range numbers() {
			e := &Error{thread, level, "desk", Note("n", inner)}
			w := want{code: api.ErrFull, thread: thread, level: level, from: true, deep: 3, text: fmt.Sprintf("thread %d level %d desk: n: thread 1 level 0 put: full", thread, level)}
			check(t, "an Error around a note around an Error", e, w)
			w.deep, w.text = 4, "m: "+w.text
			check(t, "its note", Note("m", e), w)
		}
	}
	e := &Error{5, 6, "a", &Error{7, 8, "b", &Error{9, 10, "c", api.ErrEnd}}}
	check(t, "an Error in an Error in an Error", e, want{code: api.ErrEnd, thread: 5, level: 6, from: true, deep: 3, text: "thread 5 level 6 a: thread 7 level 8 b: thread 9 level 10 c: end"})
	check(t, "an Error around a nil Error's note", &Error{5, 6, "a", Note("n", (*Error)(nil))}, want{code: api.ErrBad, none: true, thread: 5, level: 6, from: true, deep: 2, text: "thread 5 level 6 a: n: ok"})
}

// 8.2

func TestExample(t *testing.T) {
	if got := Text(New(1, 0, "put", api.ErrFull)); got != "thread 1 level 0 put: full" {
		t.Errorf("it tells %q", got)
	}
}

// TestDeepOfSeveral tells of errors that wrap several side by side: none of these is within another one, so the deepest one counts.
func TestDeepOfSeveral(t *testing.T) {
	e := New(1, 0, "put", api.ErrFull)
	for _, c := range []struct {
		e    error
		deep int
	}{
		{errors.Join(e), 2},
		{errors.Join(e, errors.New("x")), 2},
		{errors.Join(errors.New("x"), e), 2},
		{errors.Join(errors.New("x"), errors.New("y")), 1},
		{errors.Join(api.ErrEnd, Note("n", Note("m", e)), e), 4},
		{Note("n", errors.Join(api.ErrEnd, errors.Join(e))), 4},
		{fmt.Errorf("%w and %w", Note("n", e), api.ErrEnd), 3},
		{several{}, 0},
		{several{nil, nil}, 0},
		{several{nil, e, nil}, 2},
	} {
		if got := Deep(c.e); got != c.deep {
			t.Errorf("%q wraps %d, not %d", Text(c.e), got, c.deep)
		}
	}
	if j := errors.Join(errors.New("x"), Note("n", e)); Code(j) != api.ErrFull || !Is(j, api.ErrFull) || Is(j, api.ErrBad) {
		t.Error("what is wrapped beside another one isn't found")
	}
}

// several is an error that wraps several.
type several []error

func (s several) Error() string   { return "several" }
func (s several) Unwrap() []error { return s }

// 8.3

func TestNotesChangeNeitherCodeNorPlace(t *testing.T) {
	firsts := []error{api.ErrFull, api.OK, api.Errno(-1), errors.New("x"), New(1, 0, "put", api.ErrFull), New(-1, math.MinInt, "", math.MaxInt), &Error{Thread: 3, Level: 2}, (*Error)(nil), &Error{5, 1, "y", New(6, 2, "z", api.ErrWorn)}, box{New(4, 3, "pop", api.ErrNone)}}
	for _, first := range firsts {
		thread, level, from := Where(first)
		w := want{code: Code(first), none: !Is(first, Code(first)), thread: thread, level: level, from: from, deep: Deep(first), text: Text(first)}
		e := first
		for n := range 30 {
			about := whats()[n%len(whats())]
			e = Note(about, e)
			w.deep++
			w.text = about + ": " + w.text
			check(t, "noted", e, w)
		}
		if !errors.Is(e, first) {
			t.Errorf("%q is lost in its notes", Text(first))
		}
	}
}

func TestVeryManyNotes(t *testing.T) {
	const many = 300000
	e := New(1, 0, "put", api.ErrFull)
	for range many {
		e = Note("n", e)
	}
	text := strings.Repeat("n: ", many) + "thread 1 level 0 put: full"
	if Text(e) != text || e.Error() != text || Text(&Error{2, 1, "", e}) != "thread 2 level 1 : "+text {
		t.Error("it tells something else")
	}
	if Code(e) != api.ErrFull || !Is(e, api.ErrFull) || Deep(e) != many+1 {
		t.Errorf("it is of code %d, and wraps %d", Code(e), Deep(e))
	}
	if thread, level, ok := Where(e); thread != 1 || level != 0 || !ok {
		t.Errorf("it is from %d %d %v", thread, level, ok)
	}
}
