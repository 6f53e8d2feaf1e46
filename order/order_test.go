package order

import (
	"math/rand"
	"slices"
	"testing"

	"burnbag/api"
	"burnbag/means"
	"burnbag/proof"
)

// none stands for the order of opers that none explains.
var none = []int{-1}

// check holds Find, Linear and Tries of opers against whether there is an order, and what was handed in against what it was. It answers what was found.
func check(t *testing.T, f api.Conf, level int, l []api.Oper, want bool) []int {
	t.Helper()
	// What lies ahead of the list, and behind, no order explains.
	wrong := turns(0, level, push(1), code(api.ErrNone))[0]
	opers, part := laid(l, wrong, wrong)
	was := slices.Clone(opers)
	found, is := Find(f, level, part)
	if is != want {
		t.Fatalf("level %d of %+v: found: %v, of\n%+v", level, f, is, l)
	}
	if is && !(explains(f, level, l, found) && proof.Explains(f, level, l, found)) {
		t.Fatalf("level %d of %+v: %v doesn't explain\n%+v", level, f, found, l)
	}
	if !is && len(found) > 0 {
		t.Fatalf("level %d of %+v: %v beside false, of\n%+v", level, f, found, l)
	}
	if Linear(f, level, part) != want {
		t.Fatalf("level %d of %+v: linear: %v, of\n%+v", level, f, !want, l)
	}
	tries := Tries(f, level, part)
	if (tries > 0) != (len(l) <= 40) || tries < 0 {
		t.Fatalf("level %d of %+v: %d tries, of\n%+v", level, f, tries, l)
	}
	// What was answered is the caller's own, and changes nothing that is answered later.
	first := slices.Clone(found)
	for i := range found[:cap(found)] {
		found[:cap(found)][i] = -7
	}
	again, is := Find(f, level, part)
	if !slices.Equal(again, first) || is != want || Tries(f, level, part) != tries {
		t.Fatalf("level %d of %+v: %v and then %v, of\n%+v", level, f, first, again, l)
	}
	if !slices.Equal(opers, was) {
		t.Fatalf("what was handed in is\n%+v, and was\n%+v", opers, was)
	}
	return first
}

// checkOrder holds what is found against an order.
func checkOrder(t *testing.T, about string, f api.Conf, level int, l []api.Oper, want []int) {
	t.Helper()
	got := check(t, f, level, l, !slices.Equal(want, none))
	if !slices.Equal(want, none) && !slices.Equal(got, want) {
		t.Errorf("level %d: %s: found %v, not %v", level, about, got, want)
	}
}

func TestExample(t *testing.T) {
	f := threads(1, 0)
	l := turns(0, 0, pop(), told(1))
	if found, is := Find(f, 0, l); is || len(found) > 0 || Linear(f, 0, l) {
		t.Errorf("%v is an order of a Pop told 1, of nothing", found)
	}
}

// 17.1: Find and Linear

func TestFind(t *testing.T) {
	for level := range 4 {
		f := threads(4, 0, 1, 2, 3)
		in := func(both ...any) []api.Oper { return turns(level, level, both...) }
		over := func(both ...any) []api.Oper { return together(level, level, both...) }
		for _, x := range []struct {
			about string
			l     []api.Oper
			order []int
		}{
			{"nothing", nil, nil},
			{"nothing, not nil", []api.Oper{}, nil},
			{"one oper", in(push(1), fine()), []int{0}},
			{"one oper that isn't explained", in(peek(), told(1)), none},
			{"one oper that isn't answered", in(push(1), open{}), nil},
			{"some that aren't answered", in(push(1), open{}, pop(), open{}, made(1), open{}), nil},
			{"one ahead of the other", in(push(1), fine(), pop(), told(1)), []int{0, 1}},
			{"one ahead of the other, the wrong way round", in(pop(), told(1), push(1), fine()), none},
			{"one ahead of the other, and none to be told", in(push(1), fine(), pop(), code(api.ErrNone)), none},
			{"three, each ahead of the next", in(push(1), fine(), push(2), fine(), pop(), told(1)), []int{0, 1, 2}},
			{"three, the last one told what was pushed last", in(push(1), fine(), push(2), fine(), pop(), told(2)), none},
			{"overlapping", over(push(1), fine(), pop(), told(1)), []int{0, 1}},
			{"overlapping, either way round", over(put(2, 2), fine(), put(1, 1), fine()), []int{0, 1}},
			{"overlapping, and none to be told", over(push(1), fine(), pop(), code(api.ErrNone)), []int{1, 0}},
			{"overlapping, and neither way round", over(push(1), fine(), pop(), told(2)), none},
			{"the later one first", over(pop(), told(1), push(1), fine()), []int{1, 0}},
			{"the last one first", over(pop(), told(1), pop(), code(api.ErrNone), push(1), fine()), []int{1, 2, 0}},
			{"from behind", over(pop(), told(2), pop(), told(3), push(2), fine(), push(3), fine()), []int{2, 0, 3, 1}},
			{"what was first is known at the end", behind(over(push(1), fine(), push(2), fine(), push(3), fine()), in(pop(), told(3), pop(), told(1), pop(), told(2))), []int{2, 0, 1, 3, 4, 5}},
			{"what was first, and none of these", behind(over(push(1), fine(), push(2), fine(), push(3), fine()), in(pop(), told(3), pop(), told(4))), none},
			{"one ahead of one, and one over both", append(in(push(1), fine(), push(2), fine()), api.Oper{Thread: level, Call: api.Call{Op: api.Pop, Level: level}, Answer: told(2), To: 9}), none},
			{"one ahead of one, and one over both between", append(in(push(1), fine(), pop(), code(api.ErrNone)), api.Oper{Thread: level, Call: api.Call{Op: api.Pop, Level: level}, Answer: told(1), To: 9}), []int{0, 2, 1}},
			{"sessions", over(get(5), told(1), put(5, 1), fine(), del(5), told(1), put(5, 2), code(api.ErrExists), get(5), code(api.ErrNone)), []int{1, 0, 3, 2, 4}},
			{"a session that is there twice", over(put(5, 1), fine(), put(5, 1), fine()), none},
			{"a session that goes twice", over(put(5, 1), fine(), del(5), told(1), del(5), told(1)), none},
			{"a cache", over(fetch(4), told(2), store(4, 2), stored(1), store(4, 1), stored(0), drop(4), told(2), fetch(4), code(api.ErrNone)), []int{2, 1, 0, 3, 4}},
			{"a cache's key that is new twice", over(store(4, 1), stored(0), store(4, 2), stored(0)), none},
			{"a cache that is full", over(store(8, 5), storedOver(2), store(0, 1), stored(0), store(2, 2), stored(0), store(4, 3), stored(0), store(6, 4), stored(0)), []int{2, 1, 3, 4, 0}},
			{"a cache that isn't full", over(store(8, 5), storedOver(2), store(1, 1), stored(0), store(2, 2), stored(0), store(4, 3), stored(0), store(6, 4), stored(0)), none},
			{"raw nodes", over(reads(handle(level, 3, 3)), code(api.ErrStale), reads(handle(level, 3, 3)), told(4), frees(handle(level, 3, 3)), fine(), made(4), handed(handle(level, 3, 3))), []int{0, 3, 1, 2}},
			{"a handle that is told twice", over(made(4), handed(handle(level, 3, 3)), frees(handle(level, 3, 3)), fine(), made(4), handed(handle(level, 3, 3))), none},
			{"a handle of another level", in(made(4), handed(handle((level+1)%4, 3, 3))), none},
			{"a raw node that was never made", in(reads(handle(level, 1, 0)), told(4)), none},
			{"Tend", over(tend(), tended(3), tend(), tended(0), tend(), tended(60)), []int{0, 1, 2}},
			{"Tend told less than nothing", in(tend(), tended(-1)), none},
			{"all parts", over(get(1), told(1), fetch(1), told(2), peek(), told(3), reads(handle(level, 3, 3)), told(4), tend(), tended(9), put(1, 1), fine(), store(1, 2), stored(0), push(3), fine(), made(4), handed(handle(level, 3, 3))), []int{4, 5, 0, 6, 1, 7, 2, 8, 3}},
			{"what may be told besides", in(put(1, 1), code(api.ErrFull), get(1), code(api.ErrNone), push(2), code(api.ErrFull), peek(), code(api.ErrNone), made(3), code(api.ErrQuota), made(3), code(api.ErrFull), made(3), handed(handle(level, 1, 0)), frees(handle(level, 1, 0)), code(api.ErrLimbo), reads(handle(level, 1, 0)), told(3)), rising(9)},
			{"what may be told besides changes nothing", in(put(1, 1), code(api.ErrFull), get(1), told(1)), none},
			{"told besides, and it went", in(push(1), fine(), pop(), code(api.ErrLimbo), peek(), code(api.ErrNone)), none},
			{"told besides what doesn't fit", in(push(1), code(api.ErrQuota)), none},
			{"a look told to come again, by one of the level", in(get(1), code(api.ErrRetry)), none},
			{"another level's, refused", turns(level, (level+1)%4, push(1), code(api.ErrBad)), []int{0}},
			{"another level's, done", turns(level, (level+1)%4, push(1), fine()), none},
			{"another level's between", append(over(pop(), told(1), push(1), fine()), turns(level, (level+1)%4, pop(), code(api.ErrBad))...), []int{1, 0, 2}},
			{"no thread's, refused", turns(7, level, push(1), code(api.ErrBad)), []int{0}},
			{"no thread's, done", turns(7, level, push(1), fine()), none},
			{"no such op, refused", in(api.Call{Op: 13}, code(api.ErrBad)), []int{0}},
			{"no such op, done", in(api.Call{Op: 13}, fine()), none},
		} {
			checkOrder(t, x.about, f, level, x.l, x.order)
			// At another level, or at none, all this is another level's.
			for _, other := range []int{(level + 1) % 4, level + 4, -1, level - 4} {
				_, want := firstOf(means.New(f, other), x.l, nil)
				check(t, f, other, x.l, want)
			}
		}
	}
}

func TestFindOfWhatIsNotAnswered(t *testing.T) {
	f := threads(1, 0)
	for _, x := range []struct {
		about string
		l     []api.Oper
		order []int
	}{
		{"left out", together(0, 0, push(1), open{}, pop(), code(api.ErrNone)), []int{1}},
		{"done", together(0, 0, push(1), open{}, pop(), told(1)), []int{0, 1}},
		{"done, with a later place", together(0, 0, pop(), told(1), push(1), open{}), []int{1, 0}},
		{"left out, with a later place", together(0, 0, pop(), code(api.ErrNone), push(1), open{}), []int{0}},
		{"it can be neither", together(0, 0, pop(), told(2), push(1), open{}), none},
		{"it began too late", turns(0, 0, pop(), told(1), push(1), open{}), none},
		{"it began soon enough", turns(0, 0, push(1), open{}, pop(), code(api.ErrNone), pop(), told(1)), []int{1, 0, 2}},
		{"it is never done", turns(0, 0, push(1), open{}, pop(), code(api.ErrNone), pop(), code(api.ErrNone)), []int{1, 2}},
		{"one is done, and one isn't", turns(0, 0, push(1), open{}, push(2), open{}, pop(), told(2), pop(), code(api.ErrNone)), []int{1, 2, 3}},
		{"both are done, the later one first", turns(0, 0, push(1), open{}, push(2), open{}, pop(), told(2), pop(), told(1), pop(), code(api.ErrNone)), []int{1, 0, 2, 3, 4}},
		{"done once", turns(0, 0, push(1), open{}, pop(), told(1), pop(), told(1)), none},
		{"a Pop", turns(0, 0, pop(), open{}, push(1), fine(), push(2), fine(), peek(), told(2)), []int{1, 0, 2, 3}},
		{"a Put", turns(0, 0, put(5, 1), open{}, put(5, 2), fine(), get(5), told(2)), []int{1, 0, 2}},
		{"a Put that was done", turns(0, 0, put(5, 1), open{}, put(5, 2), code(api.ErrExists), get(5), told(1)), []int{0, 1, 2}},
		{"a Del", turns(0, 0, del(5), open{}, put(5, 1), fine(), get(5), told(1), get(5), code(api.ErrNone)), []int{1, 2, 0, 3}},
		{"a Store", turns(0, 0, store(5, 1), open{}, store(5, 2), stored(1), fetch(5), told(2)), []int{0, 1, 2}},
		{"a Drop", turns(0, 0, store(5, 1), stored(0), drop(5), open{}, store(5, 2), stored(0)), []int{0, 1, 2}},
		{"a Fetch that touches", turns(0, 0, store(0, 1), stored(0), store(2, 1), stored(0), store(4, 1), stored(0), store(6, 1), stored(0), store(8, 1), storedOver(0), fetch(2), open{}, store(10, 1), storedOver(4)), []int{0, 1, 2, 3, 4, 5, 6}},
		{"a Fetch that doesn't", turns(0, 0, store(0, 1), stored(0), store(2, 1), stored(0), store(4, 1), stored(0), store(6, 1), stored(0), store(8, 1), storedOver(0), fetch(2), open{}, store(10, 1), storedOver(2)), []int{0, 1, 2, 3, 4, 6}},
		{"a New", turns(0, 0, made(1), open{}, reads(handle(0, 1, 0)), told(1)), []int{0, 1}},
		{"a New that was left out", turns(0, 0, made(1), open{}, reads(handle(0, 1, 0)), code(api.ErrStale), made(2), handed(handle(0, 1, 0))), []int{1, 2}},
		{"a Free", turns(0, 0, made(1), handed(1), frees(1), open{}, reads(1), told(1), reads(1), code(api.ErrStale)), []int{0, 2, 1, 3}},
		{"looks", turns(0, 0, get(1), open{}, peek(), open{}, reads(1), open{}, tend(), open{}, pop(), told(1)), none},
		{"looks, and what is explained", turns(0, 0, get(1), open{}, peek(), open{}, reads(1), open{}, tend(), open{}, pop(), code(api.ErrNone)), []int{0, 1, 2, 3, 4}},
		{"another level's", turns(0, 1, push(1), open{}), nil},
		{"far below 0", []api.Oper{{Call: push(1), Answer: code(api.ErrWorn), From: 0, To: -9}, turns(0, 0, pop(), told(1))[0]}, []int{0, 1}},
		{"an answer at 0", []api.Oper{{Call: push(1), Answer: code(api.ErrWorn), From: 0, To: 0}, turns(0, 0, pop(), told(1))[0]}, none},
	} {
		checkOrder(t, x.about, f, 0, x.l, x.order)
	}
}

func TestFindOfLooksFromAboveAndBelow(t *testing.T) {
	f := threads(4, 0, 1, 2, 3)
	for level := range 4 {
		h := handle(level, 1, 0)
		filled := turns(level, level, put(5, 1), fine(), store(5, 2), stored(0), push(3), fine(), made(4), handed(h))
		for thread := range 4 {
			above := thread > level
			for _, look := range []struct {
				c api.Call
				a api.Answer
			}{{get(5), told(1)}, {fetch(5), told(2)}, {peek(), told(3)}, {reads(h), told(4)}} {
				with := func(a api.Answer) []api.Oper { return behind(filled, turns(thread, level, look.c, a)) }
				check(t, f, level, with(look.a), thread >= level)
				check(t, f, level, with(code(api.ErrRetry)), above)
				check(t, f, level, with(code(api.ErrPolicy)), thread < level)
				check(t, f, level, with(code(api.ErrBad)), false)
				check(t, f, level, with(fine()), false)
			}
			for _, c := range []api.Call{put(9, 9), del(5), store(9, 9), drop(5), push(9), pop(), made(9), frees(h), tend()} {
				check(t, f, level, behind(filled, turns(thread, level, c, code(api.ErrPolicy))), thread != level)
				// What is refused, and not answered, is done by nobody.
				after := behind(turns(thread, level, c, open{}), turns(level, level, pop(), code(api.ErrNone), get(9), code(api.ErrNone), fetch(9), code(api.ErrNone), reads(h), code(api.ErrStale)))
				check(t, f, level, after, true)
			}
			put9 := behind(turns(thread, level, put(9, 9), open{}), turns(level, level, get(9), told(9)))
			check(t, f, level, put9, thread == level)
		}
	}
	// A look from above touches nothing, and one of the level's own does.
	full := turns(0, 0, store(0, 1), stored(0), store(2, 1), stored(0), store(4, 1), stored(0), store(6, 1), stored(0), store(8, 1), storedOver(0))
	for thread := range 4 {
		fetched := behind(full, turns(thread, 0, fetch(2), told(1)))
		check(t, f, 0, behind(fetched, turns(0, 0, store(10, 1), storedOver(4))), thread == 0)
		check(t, f, 0, behind(fetched, turns(0, 0, store(10, 1), storedOver(2))), thread != 0)
	}
}

func TestFindOfConfigurationsThatMayNotBe(t *testing.T) {
	for _, f := range noConfs() {
		for level := -1; level <= 4; level++ {
			checkOrder(t, "nothing", f, level, nil, nil)
			for _, c := range []api.Call{put(1, 1), get(1), push(1), peek(), made(1), tend()} {
				l := turns(0, level, c, code(api.ErrBad), c, open{}, c, code(api.ErrBad))
				check(t, f, level, l, true)
				checkOrder(t, "not answered", f, level, l[1:2], nil)
				for _, a := range []api.Answer{fine(), code(api.ErrPolicy), code(api.ErrNone), code(api.ErrFull), told(1), handed(handle(0, 1, 0))} {
					l[2].Answer = a
					check(t, f, level, l, false)
				}
			}
		}
	}
}

func TestFindOfManyOpers(t *testing.T) {
	f := threads(1, 0)
	// Each of these is explained, whether one is ahead of the other, or not.
	kinds := map[string]func(i int) []any{
		"pushes":              func(i int) []any { return []any{push(uint64(i)), fine()} },
		"sessions":            func(i int) []any { return []any{put(int64(i), 1), fine()} },
		"cache":               func(i int) []any { return []any{store(int64(i%8), 1), stored(min(i/8, 1))} },
		"raw nodes":           func(i int) []any { return []any{made(1), handed(handle(0, 1, i))} },
		"looks":               func(i int) []any { return []any{get(int64(i)), code(api.ErrNone)} },
		"Tends":               func(i int) []any { return []any{tend(), tended(i % 5)} },
		"what is refused":     func(i int) []any { return []any{push(1), code(api.ErrFull)} },
		"what isn't answered": func(i int) []any { return []any{push(1), open{}} },
	}
	for about, both := range kinds {
		for _, many := range []int{1, 39, 40, 41, 42, 64, 65, 100, 1000} {
			want := rising(many)
			if about == "what isn't answered" {
				want = nil
			}
			if many > 40 {
				want = none
			}
			checkOrder(t, about, f, 0, turns(0, 0, repeated(many, both)...), want)
			checkOrder(t, about, f, 0, together(0, 0, repeated(many, both)...), want)
			if tries, atOnce := Tries(f, 0, together(0, 0, repeated(many, both)...)), len(want)+1; many <= 40 && tries != atOnce {
				t.Errorf("%d %s: %d tries, though each may be done at once", many, about, tries)
			}
		}
	}
	// What is wrong is found at each place, and what isn't answered is left out, or done, there.
	pops := append(repeated(20, kinds["pushes"]), repeated(20, func(i int) []any { return []any{pop(), told(uint64(i))} })...)
	for at := range 40 {
		l := turns(0, 0, pops...)
		check(t, f, 0, l, true)
		l[at].Answer = told(77)
		check(t, f, 0, l, false)
		l[at].To = -1
		checkOrder(t, "one isn't answered", f, 0, l, rising(min(40, 78-at)))
	}
}

func TestFindOfHistories(t *testing.T) {
	t.Parallel()
	r := rand.New(rand.NewSource(171))
	f := threads(1, 0, 0, 0, 0, 0, 0, 0, 0)
	for range 150 {
		l := simulated(r, f, 0, 40)
		if len(l) != 40 {
			t.Fatalf("%d opers", len(l))
		}
		check(t, f, 0, l, true)
		// One that is told what nobody put in.
		at := r.Intn(len(l))
		l[at].Call, l[at].Answer = pop(), told(99)
		check(t, f, 0, l, l[at].To < 0)
	}
}

func TestFindTakesTheLeastPlaceFirst(t *testing.T) {
	t.Parallel()
	r := rand.New(rand.NewSource(172))
	f := threads(3, 0, 1, 2, 1)
	queue := func() api.Call { return []api.Call{push(uint64(r.Intn(3))), pop(), peek()}[r.Intn(3)] }
	explained, turned := 0, 0
	for range 2500 {
		level, next := r.Intn(3), queue
		if r.Intn(2) == 0 {
			next = func() api.Call { return someCall(r, level) }
		} else {
			level = 0
		}
		l := played(r, f, level, r.Intn(8), next)
		want, is := firstOf(means.New(f, level), l, nil)
		got := check(t, f, level, l, is)
		if !slices.Equal(got, want) {
			t.Fatalf("level %d: found %v, not %v, of\n%+v", level, got, want, l)
		}
		if is && len(l) > 3 {
			explained++
		}
		if !slices.IsSorted(want) {
			turned++
		}
	}
	if explained < 300 || turned < 200 {
		t.Errorf("just %d were explained, %d of them by another order than theirs", explained, turned)
	}
}

// 17.1: Tries

func TestTries(t *testing.T) {
	f := threads(1, 0)
	for _, x := range []struct {
		about string
		l     []api.Oper
		tries int
	}{
		{"nothing", nil, 1},
		{"one oper", turns(0, 0, push(1), fine()), 2},
		{"one oper that isn't explained", turns(0, 0, pop(), told(1)), 1},
		{"one that isn't answered", turns(0, 0, push(1), open{}), 1},
		{"a wrong answer behind a right one", turns(0, 0, push(1), fine(), pop(), told(2)), 2},
		{"a right answer behind a wrong one", turns(0, 0, pop(), told(2), push(1), fine()), 1},
		{"two of one state, either way round", together(0, 0, put(1, 1), fine(), put(2, 2), fine(), pop(), told(1)), 4},
		{"two of two states", together(0, 0, push(1), fine(), push(2), fine(), pop(), told(3)), 5},
		{"one is enough", together(0, 0, push(1), fine(), pop(), code(api.ErrNone)), 4},
		{"looks", together(0, 0, get(1), code(api.ErrNone), peek(), code(api.ErrNone), reads(1), code(api.ErrStale), pop(), told(3)), 4},
		{"looks that aren't answered", together(0, 0, get(1), open{}, peek(), open{}, reads(1), open{}, tend(), open{}, pop(), told(3)), 5},
		{"what may be told besides", together(0, 0, put(1, 1), code(api.ErrFull), push(1), code(api.ErrFull), made(1), code(api.ErrQuota), pop(), told(3)), 4},
	} {
		if got := Tries(f, 0, x.l); got != x.tries {
			t.Errorf("%s: %d tries, not %d", x.about, got, x.tries)
		}
	}
}

func TestTriesAreFewWhereManyOverlap(t *testing.T) {
	f := threads(2, 0, 1)
	withWrong := func(many int, both func(i int) []any) []api.Oper {
		return together(0, 0, append(repeated(many, both), peek(), told(99))...)
	}
	for about, both := range map[string]func(i int) []any{
		"sessions":     func(i int) []any { return []any{put(int64(i), 1), fine()} },
		"the same":     func(i int) []any { return []any{push(1), fine()} },
		"Stores":       func(i int) []any { return []any{store(1, 1), stored(min(i, 1))} },
		"not answered": func(i int) []any { return []any{put(1, 1), open{}} },
	} {
		l := withWrong(12, both)
		if tries := Tries(f, 0, l); tries < 12 || tries > 1<<12 {
			t.Errorf("%s: %d tries of 12 that overlap", about, tries)
		}
		check(t, f, 0, l, false)
	}
	// What never changes anything needn't be done in more orders than one, however much of it there is.
	for about, both := range map[string]func(i int) []any{
		"Get":      func(i int) []any { return []any{get(int64(i)), code(api.ErrNone)} },
		"Peek":     func(i int) []any { return []any{peek(), code(api.ErrNone)} },
		"Read":     func(i int) []any { return []any{reads(uint64(i)), code(api.ErrStale)} },
		"Tend":     func(i int) []any { return []any{tend(), tended(i)} },
		"ErrLimbo": func(i int) []any { return []any{pop(), code(api.ErrLimbo)} },
		"ErrNone":  func(i int) []any { return []any{del(int64(i)), code(api.ErrNone)} },
	} {
		l := withWrong(39, both)
		for range 2 {
			if tries := Tries(f, 0, l); tries > 40 {
				t.Errorf("%s: %d tries of 40 that overlap", about, tries)
			}
			check(t, f, 0, l, false)
			// What begins, and is answered, at 0 overlaps too.
			for i := range l {
				l[i].From, l[i].To = 0, 0
			}
		}
	}
}

func TestTriesAreOfWhatThereIs(t *testing.T) {
	t.Parallel()
	r := rand.New(rand.NewSource(173))
	f := threads(3, 0, 1, 2, 1)
	for range 1500 {
		level := r.Intn(3)
		l := played(r, f, level, r.Intn(8), func() api.Call { return someCall(r, level) })
		found := check(t, f, level, l, Linear(f, level, l))
		if tries := Tries(f, level, l); tries <= len(found) || tries > points(f, level, l) {
			t.Fatalf("%d tries of %d points, an order of %d, of\n%+v", tries, points(f, level, l), len(found), l)
		}
	}
}

// 17.2

func TestWhatAnyOrderExplainsIsFound(t *testing.T) {
	t.Parallel()
	r := rand.New(rand.NewSource(174))
	f := threads(3, 0, 1, 2, 1)
	explained, not := 0, 0
	for range 4000 {
		level, many := r.Intn(3), r.Intn(6)
		queue := r.Intn(2) == 0
		l := played(r, f, level, many, func() api.Call {
			c := someCall(r, level)
			if queue {
				c = []api.Call{push(1), push(2), pop(), peek()}[r.Intn(4)]
				c.Level = level
			}
			return c
		})
		if r.Intn(8) == 0 {
			// No history has such: answered ahead of their beginnings.
			for i := range l {
				l[i].From, l[i].To = r.Intn(6)-1, r.Intn(6)-1
			}
		}
		want := anyExplains(f, level, l)
		check(t, f, level, l, want)
		if want {
			explained++
		} else {
			not++
		}
	}
	if explained < 500 || not < 500 {
		t.Errorf("%d were explained, %d weren't", explained, not)
	}
}

func TestWhatAnyOrderExplainsIsFoundOfAllFewOpers(t *testing.T) {
	t.Parallel()
	f := threads(1, 0)
	calls := []struct {
		c api.Call
		a any
	}{{push(1), fine()}, {push(2), fine()}, {push(1), open{}}, {pop(), told(1)}, {pop(), told(2)}, {pop(), code(api.ErrNone)}, {pop(), open{}}, {peek(), told(1)}, {peek(), open{}}}
	for _, spans := range [][3][2]int{{{0, 1}, {2, 3}, {4, 5}}, {{0, 5}, {1, 4}, {2, 3}}, {{0, 1}, {2, 5}, {3, 4}}, {{0, 2}, {1, 4}, {3, 5}}, {{4, 5}, {2, 3}, {0, 1}}} {
		for _, a := range calls {
			for _, b := range calls {
				for _, c := range calls {
					l := turns(0, 0, a.c, a.a, b.c, b.a, c.c, c.a)
					for i := range l {
						l[i].From = spans[i][0]
						if l[i].To >= 0 {
							l[i].To = spans[i][1]
						}
					}
					check(t, f, 0, l, anyExplains(f, 0, l))
				}
			}
		}
	}
}
