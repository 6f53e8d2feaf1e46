package proof

import (
	"math/rand"
	"slices"
	"testing"

	"burnbag/api"
	"burnbag/means"
)

// check holds May and Next against the models, and what was handed in against what it was.
func check(t *testing.T, l []api.Oper, order []int) {
	t.Helper()
	// What lies ahead of the lists, and behind, would change what is told.
	opers, part := laid(l, span(0, 0), span(0, 0))
	places, cut := laid(order, 0, 0)
	wasOpers, wasPlaces := slices.Clone(opers), slices.Clone(places)
	may, next := mayBe(l, order), comesNext(l, order)
	for range 2 {
		if got := May(part, cut); got != may {
			t.Fatalf("May of %v is %v, not %v, of\n%v", order, got, may, l)
		}
		if got := Next(part, cut); !slices.Equal(got, next) {
			t.Fatalf("Next of %v is %v, not %v, of\n%v", order, got, next, l)
		}
	}
	if !slices.Equal(opers, wasOpers) || !slices.Equal(places, wasPlaces) {
		t.Fatalf("what was handed in is\n%v and %v, and was\n%v and %v", opers, places, wasOpers, wasPlaces)
	}
	// 16.3: an order that may be, one of Next put behind, goes on to be one.
	for _, place := range next {
		if longer := append(slices.Clone(order), place); may && !May(l, longer) {
			t.Fatalf("%v may be, and %v may not, of\n%v", order, longer, l)
		}
	}
}

// checkBehind holds what is behind an order against what is wanted, and what was handed in against what it was.
func checkBehind(t *testing.T, s means.State, l []api.Oper, order []int, want tells, legal bool) {
	t.Helper()
	opers, part := laid(l, turns(0, 0, push(1), fine())[0], turns(0, 0, push(2), fine())[0])
	places, cut := laid(order, 0, 0)
	wasOpers, wasPlaces, was := slices.Clone(opers), slices.Clone(places), read(s)
	for range 2 {
		got, right := Behind(s, part, cut)
		if right != legal {
			t.Fatalf("%v is legal: %v, of\n%+v", order, right, l)
		}
		if now := read(got); !now.same(want) {
			t.Fatalf("behind %v is\n%+v, not\n%+v, of\n%+v", order, now, want, l)
		}
	}
	if !read(s).same(was) {
		t.Fatalf("the state tells\n%+v, and told\n%+v", read(s), was)
	}
	if !slices.Equal(opers, wasOpers) || !slices.Equal(places, wasPlaces) {
		t.Fatalf("what was handed in is\n%v and %v, and was\n%v and %v", opers, places, wasOpers, wasPlaces)
	}
}

// checkExplains holds whether an order explains opers against what is wanted, and what was handed in against what it was.
func checkExplains(t *testing.T, f api.Conf, level int, l []api.Oper, order []int, want bool) {
	t.Helper()
	opers, part := laid(l, turns(0, level, push(1), fine())[0], turns(0, level, push(2), fine())[0])
	places, cut := laid(order, 0, 0)
	wasOpers, wasPlaces := slices.Clone(opers), slices.Clone(places)
	for range 2 {
		if got := Explains(f, level, part, cut); got != want {
			t.Fatalf("level %d of %+v: %v explains: %v, of\n%+v", level, f, order, got, l)
		}
	}
	if !slices.Equal(opers, wasOpers) || !slices.Equal(places, wasPlaces) {
		t.Fatalf("what was handed in is\n%v and %v, and was\n%v and %v", opers, places, wasOpers, wasPlaces)
	}
}

func TestExample(t *testing.T) {
	f := threads(1, 0)
	l := turns(0, 0, push(1), fine(), pop(), told(1))
	if !Explains(f, 0, l, []int{0, 1}) {
		t.Error("0, 1 doesn't explain it")
	}
	if Explains(f, 0, l, []int{1, 0}) {
		t.Error("1, 0 explains it")
	}
}

// 16.1: May

func TestMay(t *testing.T) {
	row := spans([2]int{0, 1}, [2]int{2, 3}, [2]int{4, 5})
	over := spans([2]int{0, 3}, [2]int{1, 4}, [2]int{2, 5})
	half := spans([2]int{0, 2}, [2]int{1, -1}, [2]int{3, 4}, [2]int{5, -1})
	for _, x := range []struct {
		about string
		l     []api.Oper
		order []int
		may   bool
	}{
		{"one behind the other", row, []int{0, 1, 2}, true},
		{"the last two the other way round", row, []int{0, 2, 1}, false},
		{"the first two the other way round", row, []int{1, 0, 2}, false},
		{"the last one first", row, []int{2, 0, 1}, false},
		{"the first one last", row, []int{1, 2, 0}, false},
		{"from behind", row, []int{2, 1, 0}, false},
		{"without the first one", row, []int{1, 2}, false},
		{"without the one between", row, []int{0, 2}, false},
		{"without the last one", row, []int{0, 1}, false},
		{"with one alone", row, []int{2}, false},
		{"with none", row, nil, false},
		{"overlapping", over, []int{0, 1, 2}, true},
		{"overlapping, from behind", over, []int{2, 1, 0}, true},
		{"overlapping, from the middle on", over, []int{1, 2, 0}, true},
		{"overlapping, without one", over, []int{2, 0}, false},
		{"without those that aren't answered", half, []int{0, 2}, true},
		{"with all", half, []int{0, 1, 2, 3}, true},
		{"with one that isn't answered first", half, []int{1, 0, 2}, true},
		{"with one that isn't answered last", half, []int{0, 2, 1}, true},
		{"with one that isn't answered ahead of what is ahead of it", half, []int{0, 3, 2}, false},
		{"with both that aren't answered", half, []int{0, 2, 3, 1}, true},
		{"with one that isn't answered ahead of all", half, []int{3, 0, 2}, false},
		{"without what is ahead of one that isn't answered", half, []int{0, 1, 3}, false},
		{"with those alone that aren't answered", half, []int{1, 3}, false},
		{"the second one ahead of the first", half, []int{2, 0}, false},
		{"the first one twice", row, []int{0, 0, 1, 2}, false},
		{"the last one twice", row, []int{0, 1, 2, 2}, false},
		{"the first one at the end again", row, []int{0, 1, 2, 0}, false},
		{"one twice instead of another one", over, []int{0, 1, 1}, false},
		{"one that isn't answered twice", half, []int{0, 1, 1, 2}, false},
		{"no opers", nil, nil, true},
		{"no opers, no places", []api.Oper{}, []int{}, true},
		{"a place of no opers", nil, []int{0}, false},
		{"none of those that aren't answered", unansweredRow(3), nil, true},
		{"some of those that aren't answered", unansweredRow(3), []int{2, 0}, true},
		{"an answer at the place of a beginning", spans([2]int{0, 3}, [2]int{3, 4}), []int{1, 0}, true},
		{"an answer next ahead of a beginning", spans([2]int{0, 3}, [2]int{4, 5}), []int{1, 0}, false},
		{"an answer at 0", spans([2]int{1, 2}, [2]int{0, 0}), []int{0, 1}, false},
		{"an answer at 0, in turn", spans([2]int{1, 2}, [2]int{0, 0}), []int{1, 0}, true},
		{"an answer far below 0", spans([2]int{5, -9}, [2]int{6, 7}), []int{1, 0}, true},
	} {
		if got := May(x.l, x.order); got != x.may {
			t.Errorf("%s: %v may be: %v", x.about, x.order, got)
		}
		check(t, x.l, x.order)
	}
}

func TestMayOfPlacesThatThereAreNot(t *testing.T) {
	for _, l := range [][]api.Oper{nil, inRow(1), inRow(3), overlapping(4), unansweredRow(3), inRow(40)} {
		for _, no := range noPlaces(len(l)) {
			for at := range len(l) + 1 {
				order := slices.Insert(rising(len(l)), at, no)
				if May(l, order) {
					t.Errorf("%v may be, of %d", order, len(l))
				}
				check(t, l, order)
			}
			if May(l, []int{no}) || May(l, []int{no, no}) {
				t.Errorf("%d alone may be, of %d", no, len(l))
			}
		}
	}
}

func TestMayOfManyOpers(t *testing.T) {
	for _, many := range []int{40, 41, 256, 1000} {
		for at := 0; at < many; at += 1 + many/9 {
			l, order := inRow(many), rising(many)
			if !May(l, order) || !May(overlapping(many), order) {
				t.Fatalf("%d in their order may not be", many)
			}
			without := slices.Delete(slices.Clone(order), at, at+1)
			if May(l, without) || May(overlapping(many), without) || !May(unansweredRow(many), without) {
				t.Fatalf("%d without place %d", many, at)
			}
			later := append(without, at)
			if May(l, later) != (at == many-1) || !May(overlapping(many), later) {
				t.Fatalf("%d with place %d at the end", many, at)
			}
			sooner := append([]int{at}, without[:many-1]...)
			if May(l, sooner) != (at == 0) || !May(overlapping(many), sooner) {
				t.Fatalf("%d with place %d ahead", many, at)
			}
			twice := append(order, at)
			if May(l, twice) || May(overlapping(many), twice) || May(unansweredRow(many), twice) {
				t.Fatalf("%d with place %d twice", many, at)
			}
		}
	}
}

func TestAllSequencesOfFewOpers(t *testing.T) {
	t.Parallel()
	all := sequences([]int{-1, 0, 1, 2}, 3)
	ends := []int{-1, 0, 1, 2, 3}
	for _, a := range ends {
		for _, b := range ends {
			for _, c := range ends {
				for _, d := range ends {
					l := spans([2]int{a, b}, [2]int{c, d})
					for _, order := range all {
						check(t, l, order)
					}
				}
			}
		}
	}
	r := rand.New(rand.NewSource(161))
	for range 40 {
		l := someSpans(r, 4)
		for _, order := range sequences([]int{-1, 0, 1, 2, 3, 4}, 5) {
			check(t, l, order)
		}
	}
}

func TestManyOrders(t *testing.T) {
	t.Parallel()
	r := rand.New(rand.NewSource(162))
	for range 6000 {
		many := r.Intn(12)
		l := someSpans(r, many)
		switch r.Intn(4) {
		case 0:
			l = walk(r, many)
		case 1:
			l = anySpans(r, many)
		}
		check(t, l, someOrder(r, many))
		check(t, l, rising(many))
	}
}

// 16.1: Behind

func TestBehind(t *testing.T) {
	f := threads(1, 0, 0)
	for _, x := range []struct {
		about string
		l     []api.Oper
		order []int
		want  tells
	}{
		{"no opers", nil, nil, tells{}},
		{"no places", turns(0, 0, push(1), fine()), []int{}, tells{}},
		{"a session", turns(0, 0, put(5, 1), fine()), []int{0}, tells{sessions: []api.Row{row(5, 1)}}},
		{"two sessions", turns(0, 0, put(5, 1), fine(), put(-3, 2), fine()), []int{0, 1}, tells{sessions: []api.Row{row(-3, 2), row(5, 1)}}},
		{"two sessions of one key", turns(0, 0, put(5, 1), fine(), put(5, 2), code(api.ErrExists), get(5), told(1)), []int{0, 1, 2}, tells{sessions: []api.Row{row(5, 1)}}},
		{"a session that goes", turns(0, 0, put(5, 1), fine(), del(5), told(1), get(5), code(api.ErrNone)), []int{0, 1, 2}, tells{}},
		{"the same, from behind, in another order", turns(0, 0, get(5), code(api.ErrNone), del(5), told(1), put(5, 1), fine()), []int{2, 1, 0}, tells{}},
		{"a cache", turns(0, 0, store(4, 1), stored(0), store(4, 2), stored(1), fetch(4), told(2)), []int{0, 1, 2}, tells{cached: []api.Row{row(4, 2)}}},
		{"a cache that is full", turns(0, 0, store(0, 1), stored(0), store(2, 2), stored(0), store(4, 3), stored(0), store(6, 4), stored(0), store(8, 5), storedOver(0)),
			[]int{0, 1, 2, 3, 4}, tells{cached: []api.Row{row(2, 2), row(4, 3), row(6, 4), row(8, 5)}}},
		{"a cache that is emptied", turns(0, 0, store(4, 1), stored(0), drop(4), told(1), drop(4), code(api.ErrNone)), []int{0, 1, 2}, tells{}},
		{"a queue", turns(0, 0, push(1), fine(), push(2), fine(), pop(), told(1), peek(), told(2)), []int{0, 1, 2, 3}, tells{queued: []api.Pair{pair(2)}}},
		{"the other way round", turns(0, 0, push(1), fine(), push(2), fine()), []int{1, 0}, tells{queued: []api.Pair{pair(2), pair(1)}}},
		{"one alone", turns(0, 0, push(1), fine(), push(2), fine()), []int{1}, tells{queued: []api.Pair{pair(2)}}},
		{"raw nodes", turns(0, 0, made(1), handed(handle(0, 9, 4)), made(2), handed(handle(0, 1, 7)), reads(handle(0, 9, 4)), told(1), frees(handle(0, 9, 4)), fine(), reads(handle(0, 9, 4)), code(api.ErrStale)),
			[]int{0, 1, 2, 3, 4}, tells{raw: []uint64{handle(0, 1, 7)}}},
		{"all parts", turns(0, 0, put(1, 1), fine(), store(1, 2), stored(0), push(3), fine(), made(4), handed(handle(0, 2, 3)), tend(), tended(9)),
			[]int{4, 3, 2, 1, 0}, tells{[]api.Row{row(1, 1)}, []api.Row{row(1, 2)}, []api.Pair{pair(3)}, []uint64{handle(0, 2, 3)}, ""}},
		{"what isn't answered", []api.Oper{unanswered(0, push(1), 0), unanswered(1, push(2), 1)}, []int{1, 0}, tells{queued: []api.Pair{pair(2), pair(1)}}},
		{"what isn't answered, with what is", []api.Oper{unanswered(0, push(1), 0), answeredSo(1, pop(), told(1), 1, 2)}, []int{0, 1}, tells{}},
		{"what isn't answered, of all parts", []api.Oper{unanswered(0, put(5, 1), 0), unanswered(0, store(5, 2), 0), unanswered(0, push(3), 0), unanswered(0, made(4), 0), unanswered(0, tend(), 0)},
			[]int{0, 1, 2, 3, 4}, tells{[]api.Row{row(5, 1)}, []api.Row{row(5, 2)}, []api.Pair{pair(3)}, []uint64{handle(0, 1, 0)}, ""}},
		{"what isn't answered, and changes nothing", []api.Oper{unanswered(0, pop(), 0), unanswered(0, del(5), 0), unanswered(0, drop(5), 0), unanswered(0, frees(1), 0)}, []int{0, 1, 2, 3}, tells{}},
		{"handles of what isn't answered", []api.Oper{unanswered(0, made(1), 0), unanswered(0, made(2), 0), answeredSo(1, reads(handle(0, 1, 1)), told(2), 0, 1)},
			[]int{0, 1, 2}, tells{raw: []uint64{handle(0, 1, 0), handle(0, 1, 1)}}},
		{"what isn't answered has an answer that doesn't matter", []api.Oper{{Call: push(1), Answer: code(api.ErrWorn), From: 3, To: -7}}, []int{0}, tells{queued: []api.Pair{pair(1)}}},
		{"answers that may be told besides", turns(0, 0, put(5, 1), code(api.ErrFull), store(5, 1), code(api.ErrLimbo), store(5, 1), code(api.ErrFull), push(1), code(api.ErrFull), made(1), code(api.ErrQuota), made(1), code(api.ErrFull)),
			[]int{0, 1, 2, 3, 4, 5}, tells{}},
		{"answers that may be told besides, where something is", turns(0, 0, put(5, 1), fine(), del(5), code(api.ErrLimbo), push(1), fine(), pop(), code(api.ErrLimbo), made(2), handed(1), frees(1), code(api.ErrLimbo), drop(5), code(api.ErrLimbo)),
			[]int{0, 1, 2, 3, 4, 5, 6}, tells{sessions: []api.Row{row(5, 1)}, queued: []api.Pair{pair(1)}, raw: []uint64{1}}},
		{"another level's call", []api.Oper{answeredSo(0, api.Call{Op: api.Push, Level: 1}, code(api.ErrBad), 0, 1), unanswered(0, api.Call{Op: api.Push, Level: 1}, 2)}, []int{0, 1}, tells{}},
		{"a call of no thread", []api.Oper{answeredSo(2, push(1), code(api.ErrBad), 0, 1), unanswered(-1, push(1), 2)}, []int{0, 1}, tells{}},
	} {
		s := means.New(f, 0)
		got, legal := Behind(s, x.l, x.order)
		now := read(got)
		if x.want.text = now.text; !legal || !now.same(x.want) {
			t.Errorf("%s: behind %v is %+v, %v", x.about, x.order, now, legal)
		}
		if again, _ := goesTo(s, x.l, x.order); again.Text() != now.text {
			t.Errorf("%s: the text is\n%s, not\n%s", x.about, now.text, again.Text())
		}
		checkBehind(t, s, x.l, x.order, x.want, true)
	}
}

func TestBehindOfWhatIsNotLegal(t *testing.T) {
	f := threads(2, 0, 1)
	s := filled(t, f, 0, 0)
	right := turns(0, 0, push(9), fine(), peek(), told(5), put(8, 8), fine(), store(8, 9), stored(0), made(10), handed(handle(0, 7, 7)))
	for _, wrong := range []api.Oper{
		turns(0, 0, put(5, 1), fine())[0],
		turns(0, 0, put(6, 1), code(api.ErrExists))[0],
		turns(0, 0, put(6, 1), code(api.ErrNone))[0],
		turns(0, 0, get(5), told(2))[0],
		turns(0, 0, get(5), code(api.ErrNone))[0],
		turns(0, 0, get(6), told(0))[0],
		turns(0, 0, get(5), code(api.ErrRetry))[0],
		turns(0, 0, del(-7), code(api.ErrNone))[0],
		turns(0, 0, store(5, 1), stored(0))[0],
		turns(0, 0, store(7, 1), stored(1))[0],
		turns(0, 0, store(7, 1), storedOver(5))[0],
		turns(0, 0, fetch(5), told(3))[0],
		turns(0, 0, drop(7), told(3))[0],
		turns(0, 0, push(1), code(api.ErrQuota))[0],
		turns(0, 0, pop(), told(6))[0],
		turns(0, 0, pop(), code(api.ErrNone))[0],
		turns(0, 0, peek(), told(7))[0],
		turns(0, 0, made(1), handed(handle(0, 1, 0)))[0],
		turns(0, 0, made(1), handed(handle(1, 1, 0)))[0],
		turns(0, 0, made(1), fine())[0],
		turns(0, 0, reads(handle(0, 1, 0)), told(9))[0],
		turns(0, 0, frees(handle(0, 1, 0)), code(api.ErrStale))[0],
		turns(0, 0, frees(handle(0, 3, 0)), fine())[0],
		turns(0, 0, tend(), tended(-1))[0],
		turns(1, 0, push(1), fine())[0],
		turns(1, 0, push(1), code(api.ErrBad))[0],
		turns(0, 1, push(1), fine())[0],
		turns(0, 1, push(1), code(api.ErrPolicy))[0],
		turns(2, 0, push(1), fine())[0],
	} {
		for at := range len(right) + 1 {
			l := slices.Insert(slices.Clone(right), at, wrong)
			checkBehind(t, s, l, rising(len(l)), read(s), false)
			checkBehind(t, s, l, rising(at+1), read(s), false)
		}
	}
	// Just the wrong ones are wrong.
	if _, legal := Behind(s, right, rising(len(right))); !legal {
		t.Error("the right ones aren't legal")
	}
}

func TestBehindGoesByTheOrder(t *testing.T) {
	f := threads(1, 0)
	l := turns(0, 0, push(1), fine(), push(2), fine(), pop(), told(2))
	for _, order := range orders(3) {
		queue, legal := queueGoes(l, order)
		got, right := Behind(means.New(f, 0), l, order)
		if right != legal || legal && !slices.Equal(got.Queued(), queue) || !legal && len(got.Queued()) != 0 {
			t.Errorf("behind %v is %v, %v, not %v, %v", order, got.Queued(), right, queue, legal)
		}
	}
	// Which are ahead of which doesn't matter to what is legal.
	if got, legal := Behind(means.New(f, 0), l, []int{1, 2, 0}); !legal || !slices.Equal(got.Queued(), []api.Pair{pair(1)}) {
		t.Errorf("behind 1, 2, 0 is %v, %v", got.Queued(), legal)
	}
}

func TestBehindOfPlacesThatThereAreNot(t *testing.T) {
	f := threads(1, 0)
	for _, s := range []means.State{means.New(f, 0), filled(t, f, 0, 0)} {
		for _, l := range [][]api.Oper{nil, turns(0, 0, push(1), fine()), turns(0, 0, push(1), fine(), put(9, 1), fine(), made(3), handed(handle(0, 5, 5)))} {
			for _, no := range noPlaces(len(l)) {
				for at := range len(l) + 1 {
					checkBehind(t, s, l, slices.Insert(rising(len(l)), at, no), read(s), false)
				}
				checkBehind(t, s, l, []int{no}, read(s), false)
			}
		}
	}
}

func TestBehindOfPlacesThatAreThereTwice(t *testing.T) {
	f := threads(1, 0)
	s := means.New(f, 0)
	// It is done, or told, as often as it is there, if that is legal.
	for _, x := range []struct {
		about string
		l     []api.Oper
		order []int
		want  tells
		legal bool
	}{
		{"a Push", turns(0, 0, push(1), fine()), []int{0, 0, 0}, tells{queued: []api.Pair{pair(1), pair(1), pair(1)}}, true},
		{"a Push that isn't answered", []api.Oper{unanswered(0, push(1), 0)}, []int{0, 0}, tells{queued: []api.Pair{pair(1), pair(1)}}, true},
		{"a New that isn't answered", []api.Oper{unanswered(0, made(1), 0)}, []int{0, 0}, tells{raw: []uint64{1, 257}}, true},
		{"a Pop", turns(0, 0, push(1), fine(), pop(), told(1)), []int{0, 0, 1, 1}, tells{}, true},
		{"a Pop of one thing", turns(0, 0, push(1), fine(), pop(), told(1)), []int{0, 1, 1}, tells{}, false},
		{"a Put", turns(0, 0, put(1, 1), fine()), []int{0, 0}, tells{}, false},
		{"a New", turns(0, 0, made(1), handed(1)), []int{0, 0}, tells{}, false},
		{"what changes nothing", turns(0, 0, get(1), code(api.ErrNone)), []int{0, 0}, tells{}, true},
	} {
		got, legal := Behind(s, x.l, x.order)
		now := read(got)
		if x.want.text = now.text; legal != x.legal || !now.same(x.want) || !legal && now.text != s.Text() {
			t.Errorf("%s: behind %v is %+v, %v", x.about, x.order, now, legal)
		}
		checkBehind(t, s, x.l, x.order, x.want, x.legal)
	}
}

func TestBehindOfLooksFromAbove(t *testing.T) {
	f := threads(3, 0, 1, 2)
	for level := range 3 {
		s := filled(t, f, level, level)
		for thread := range 3 {
			for _, o := range []api.Oper{
				turns(thread, level, get(5), told(1))[0], turns(thread, level, fetch(5), told(4))[0], turns(thread, level, peek(), told(5))[0],
				turns(thread, level, reads(handle(level, 1, 1)), told(8))[0], turns(thread, level, reads(handle(level, 1, 2)), code(api.ErrStale))[0],
			} {
				got, legal := Behind(s, []api.Oper{o}, []int{0})
				if legal != (thread >= level) || got.Text() != s.Text() && thread != level {
					t.Errorf("thread %d at level %d: %+v is %v", thread, level, o, legal)
				}
				o.Answer = code(api.ErrRetry)
				checkBehind(t, s, []api.Oper{o}, []int{0}, read(s), thread > level)
				o.Answer = code(api.ErrPolicy)
				checkBehind(t, s, []api.Oper{o}, []int{0}, read(s), thread < level)
				o.To = -1
				if thread != level {
					checkBehind(t, s, []api.Oper{o}, []int{0}, read(s), true)
				}
			}
			// Who isn't of the level changes nothing there, told so or not answered.
			for _, c := range []api.Call{put(9, 9), del(5), store(9, 9), drop(5), push(9), pop(), made(9), frees(handle(level, 1, 0)), tend()} {
				c.Level = level
				if thread != level {
					checkBehind(t, s, []api.Oper{answeredSo(thread, c, code(api.ErrPolicy), 0, 1), unanswered(thread, c, 2)}, []int{0, 1}, read(s), true)
				}
			}
		}
	}
}

// someCall is a call at a level, of few keys, pairs and handles.
func someCall(r *rand.Rand, level int) api.Call {
	key, n := int64(r.Intn(6)), uint64(r.Intn(4))
	h := handle(level, 1, r.Intn(3))
	l := []api.Call{put(key, n), get(key), del(key), store(key, n), fetch(key), drop(key), push(n), pop(), peek(), made(n), reads(h), frees(h), tend()}
	c := l[r.Intn(len(l))]
	c.Level = level
	return c
}

// played is opers that are answered as the level is meant to be, but for a few: those are told something besides, or aren't answered, or are told something else.
func played(r *rand.Rand, f api.Conf, level, many int) []api.Oper {
	s := means.New(f, level)
	var l []api.Oper
	for i := range many {
		o := answeredSo(r.Intn(f.Threads), someCall(r, level), fine(), 2*i-r.Intn(5), 2*i+1+r.Intn(5))
		next, a := s.Does(o.Thread, o.Call)
		o.Answer = a
		switch r.Intn(12) {
		case 0:
			o.Answer = code(api.Errno(r.Intn(17)))
		case 1:
			o.Answer = told(uint64(r.Intn(4)))
		case 2, 3:
			o.To = -1
		}
		if behind, ok := s.Told(o.Thread, o.Call, o.Answer); ok && o.To >= 0 {
			next = behind
		}
		l, s = append(l, o), next
	}
	return l
}

func TestBehindOfManyOrders(t *testing.T) {
	t.Parallel()
	r := rand.New(rand.NewSource(163))
	f := threads(3, 0, 1, 2, 1)
	legals := 0
	for range 3000 {
		level := r.Intn(3)
		s := filled(t, f, level, level)
		if r.Intn(2) == 0 {
			s = means.New(f, level)
		}
		l := played(r, f, level, r.Intn(9))
		order := someOrder(r, len(l))
		if r.Intn(2) == 0 {
			order = rising(len(l))
		}
		want, legal := goesTo(s, l, order)
		if !legal {
			want = s
		} else if len(order) > 2 {
			legals++
		}
		checkBehind(t, s, l, order, read(want), legal)
		_, fromNothing := goesTo(means.New(f, level), l, order)
		checkExplains(t, f, level, l, order, fromNothing && mayBe(l, order))
	}
	if legals < 200 {
		t.Errorf("just %d of them were legal", legals)
	}
}

// 16.1: Explains

func TestExplains(t *testing.T) {
	for level := range 4 {
		f := threads(4, 0, 1, 2, 3)
		in := func(both ...any) []api.Oper { return turns(level, level, both...) }
		// Both begin ahead of the first answer.
		together := func(l []api.Oper) []api.Oper {
			for i := range l {
				l[i].From, l[i].To = i, 2*len(l)-i
			}
			return l
		}
		for _, x := range []struct {
			about string
			l     []api.Oper
			order []int
			want  bool
		}{
			{"nothing", nil, nil, true},
			{"Push 1, then Pop told 1", in(push(1), fine(), pop(), told(1)), []int{0, 1}, true},
			{"neither may be nor is legal", in(push(1), fine(), pop(), told(1)), []int{1, 0}, false},
			{"legal, and may not be: it isn't in turn", in(pop(), told(1), push(1), fine()), []int{1, 0}, false},
			{"may be, and isn't legal", in(pop(), told(1), push(1), fine()), []int{0, 1}, false},
			{"legal, and may not be: one that is answered isn't in it", in(push(1), fine(), pop(), told(2)), []int{0}, false},
			{"legal, and may not be: there twice", in(peek(), code(api.ErrNone)), []int{0, 0}, false},
			{"legal, and may not be: none", in(push(1), fine()), nil, false},
			{"neither: a place that there isn't", in(push(1), fine()), []int{0, 1}, false},
			{"at the same time, in turn", together(in(push(1), fine(), pop(), told(1))), []int{0, 1}, true},
			{"at the same time, and not legal", together(in(push(1), fine(), pop(), told(1))), []int{1, 0}, false},
			{"at the same time, the other way round", together(in(pop(), told(1), push(1), fine())), []int{1, 0}, true},
			{"at the same time, any way round", together(in(put(1, 1), fine(), put(2, 2), fine())), []int{1, 0}, true},
			{"each part", in(put(1, 1), fine(), store(1, 2), stored(0), push(3), fine(), made(4), handed(handle(level, 3, 3)), get(1), told(1), fetch(1), told(2), peek(), told(3), reads(handle(level, 3, 3)), told(4)), rising(8), true},
			{"a handle of another level", in(made(4), handed(handle((level+1)%4, 3, 3))), []int{0}, false},
			{"what may be told besides", in(put(1, 1), code(api.ErrFull), get(1), code(api.ErrNone)), []int{0, 1}, true},
			{"what isn't answered, done", append(in(pop(), told(1)), unanswered(level, api.Call{Op: api.Push, Level: level, Pair: pair(1)}, 0)), []int{1, 0}, true},
			{"what isn't answered, done too late", append(in(pop(), told(1)), unanswered(level, api.Call{Op: api.Push, Level: level, Pair: pair(1)}, 0)), []int{0, 1}, false},
			{"what isn't answered, left out", append(in(pop(), code(api.ErrNone)), unanswered(level, api.Call{Op: api.Push, Level: level, Pair: pair(1)}, 0)), []int{0}, true},
			{"what isn't answered, left out though it is needed", append(in(pop(), told(1)), unanswered(level, api.Call{Op: api.Push, Level: level, Pair: pair(1)}, 0)), []int{0}, false},
			{"what isn't answered, and began too late", append(in(pop(), told(1)), unanswered(level, api.Call{Op: api.Push, Level: level, Pair: pair(1)}, 2)), []int{1, 0}, false},
			{"another level's, refused", turns(level, (level+1)%4, push(1), code(api.ErrBad)), []int{0}, true},
			{"another level's, done", turns(level, (level+1)%4, push(1), fine()), []int{0}, false},
		} {
			if got := Explains(f, level, x.l, x.order); got != x.want {
				t.Errorf("level %d: %s: %v explains: %v", level, x.about, x.order, got)
			}
			checkExplains(t, f, level, x.l, x.order, x.want)
			// At another level, or at none, all this is another level's.
			for _, other := range []int{(level + 1) % 4, level + 4, -1, level - 4} {
				_, legal := goesTo(means.New(f, other), x.l, x.order)
				checkExplains(t, f, other, x.l, x.order, legal && mayBe(x.l, x.order))
			}
		}
	}
}

func TestExplainsBeginsWithNothing(t *testing.T) {
	f := threads(1, 0)
	for _, l := range [][]api.Oper{
		turns(0, 0, get(5), told(1)), turns(0, 0, get(0), told(0)), turns(0, 0, fetch(5), told(4)), turns(0, 0, pop(), told(5)), turns(0, 0, peek(), fine()), turns(0, 0, reads(1), told(7)),
	} {
		if Explains(f, 0, l, []int{0}) {
			t.Errorf("%+v is explained", l)
		}
	}
	for _, l := range [][]api.Oper{
		turns(0, 0, get(5), code(api.ErrNone)), turns(0, 0, fetch(5), code(api.ErrNone)), turns(0, 0, peek(), code(api.ErrNone)), turns(0, 0, reads(1), code(api.ErrStale)), turns(0, 0, made(1), handed(1)),
	} {
		if !Explains(f, 0, l, []int{0}) {
			t.Errorf("%+v isn't explained", l)
		}
	}
}

func TestExplainsOfConfigurationsThatMayNotBe(t *testing.T) {
	for _, f := range noConfs() {
		for level := -1; level <= 4; level++ {
			for _, c := range []api.Call{put(1, 1), get(1), push(1), peek(), made(1), tend()} {
				c.Level = level
				l := []api.Oper{answeredSo(0, c, code(api.ErrBad), 0, 1), unanswered(0, c, 2), answeredSo(0, c, code(api.ErrBad), 3, 4)}
				checkExplains(t, f, level, l, []int{0, 2}, true)
				checkExplains(t, f, level, l, []int{0, 1, 2}, true)
				checkExplains(t, f, level, l, []int{2, 0}, false)
				checkExplains(t, f, level, l, []int{0}, false)
				for _, a := range []api.Answer{fine(), code(api.ErrPolicy), code(api.ErrNone), code(api.ErrFull), told(1)} {
					l[2].Answer = a
					checkExplains(t, f, level, l, []int{0, 2}, false)
				}
			}
			checkExplains(t, f, level, nil, nil, true)
			checkExplains(t, f, level, nil, []int{0}, false)
		}
	}
}

func TestExplainsOfAllOrdersOfAQueue(t *testing.T) {
	t.Parallel()
	r := rand.New(rand.NewSource(164))
	f := threads(1, 0, 0, 0, 0)
	all := orders(5)
	explained := 0
	for range 300 {
		l := someSpans(r, 5)
		for i := range l {
			l[i].Thread = r.Intn(4)
			l[i].Call = []api.Call{push(1), push(2), push(3), pop(), peek()}[r.Intn(5)]
			if l[i].Call.Op != api.Push {
				l[i].Answer = []api.Answer{told(1), told(2), told(3), code(api.ErrNone)}[r.Intn(4)]
			}
		}
		for _, order := range all {
			_, legal := queueGoes(l, order)
			want := legal && mayBe(l, order)
			if got := Explains(f, 0, l, order); got != want {
				t.Fatalf("%v explains: %v, of\n%+v", order, got, l)
			}
			if want {
				explained++
			}
		}
	}
	if explained < 200 {
		t.Errorf("just %d orders explained", explained)
	}
}

// 16.2

func TestNext(t *testing.T) {
	row := inRow(4)
	over := overlapping(4)
	open := unansweredRow(4)
	steps := spans([2]int{0, 3}, [2]int{1, 5}, [2]int{4, 8}, [2]int{6, 7}, [2]int{9, -1})
	back := spans([2]int{9, -1}, [2]int{6, 7}, [2]int{4, 8}, [2]int{1, 5}, [2]int{0, 3})
	for _, x := range []struct {
		about       string
		l           []api.Oper
		order, want []int
	}{
		{"no opers", nil, nil, nil},
		{"no opers, some places", nil, []int{0, 1, -1}, nil},
		{"one", inRow(1), nil, []int{0}},
		{"none but one", inRow(1), []int{0}, nil},
		{"the first one of a row", row, nil, []int{0}},
		{"of an empty order", row, []int{}, []int{0}},
		{"the second one", row, []int{0}, []int{1}},
		{"the last one", row, []int{0, 1, 2}, []int{3}},
		{"the last one, of another order", row, []int{2, 0, 1}, []int{3}},
		{"all", row, []int{0, 1, 2, 3}, nil},
		{"all from behind", row, []int{3, 2, 1, 0}, nil},
		{"the first one though later ones are in", row, []int{3, 1}, []int{0}},
		{"the second one though later ones are in", row, []int{0, 3}, []int{1}},
		{"all of those that overlap", over, nil, []int{0, 1, 2, 3}},
		{"all but one of those that overlap", over, []int{2}, []int{0, 1, 3}},
		{"all but three of those that overlap", over, []int{3, 0, 1}, []int{2}},
		{"all of those that aren't answered", open, nil, []int{0, 1, 2, 3}},
		{"all but one that aren't answered", open, []int{0}, []int{1, 2, 3}},
		{"all but all that aren't answered", open, []int{2, 3, 1, 0}, nil},
		{"of steps", steps, nil, []int{0, 1}},
		{"of steps, the first one in", steps, []int{0}, []int{1, 2}},
		{"of steps, the second one in", steps, []int{1}, []int{0}},
		{"of steps, the first two in", steps, []int{1, 0}, []int{2, 3}},
		{"of steps, the last one left", steps, []int{0, 1, 3, 2}, []int{4}},
		{"of steps, two left", steps, []int{0, 1, 3}, []int{2}},
		{"of steps from behind, rising", back, nil, []int{3, 4}},
		{"of steps from behind, two in", back, []int{4, 3}, []int{1, 2}},
		{"of steps from behind, one in", back, []int{4}, []int{2, 3}},
		{"behind one that isn't answered", spans([2]int{0, -1}, [2]int{5, 6}), nil, []int{0, 1}},
		{"behind one that isn't answered, in", spans([2]int{0, -1}, [2]int{5, 6}), []int{0}, []int{1}},
		{"one that isn't answered, behind another one", spans([2]int{0, 4}, [2]int{5, -1}), nil, []int{0}},
		{"one that isn't answered, behind another one, in", spans([2]int{0, 4}, [2]int{5, -1}), []int{0}, []int{1}},
		{"an answer at the place of a beginning", spans([2]int{0, 5}, [2]int{5, 6}), nil, []int{0, 1}},
		{"an answer at 0", spans([2]int{1, 2}, [2]int{0, 0}), nil, []int{1}},
		{"two that are answered at one place", spans([2]int{0, 3}, [2]int{1, 3}, [2]int{4, 5}), nil, []int{0, 1}},
		{"two that are answered at one place, one in", spans([2]int{0, 3}, [2]int{1, 3}, [2]int{4, 5}), []int{1}, []int{0}},
		{"places twice", row, []int{0, 0, 1, 0}, []int{2}},
		{"places that there aren't", row, []int{-1, 0, 4, 1, 1 << 40}, []int{2}},
		{"places that there aren't alone", row, []int{-1, 4}, []int{0}},
	} {
		if got := Next(x.l, x.order); !slices.Equal(got, x.want) {
			t.Errorf("%s: behind %v comes %v, not %v", x.about, x.order, got, x.want)
		}
		check(t, x.l, x.order)
	}
}

func TestNextPassesOverWhatThereIsNot(t *testing.T) {
	r := rand.New(rand.NewSource(165))
	for range 200 {
		many := r.Intn(9)
		l := someSpans(r, many)
		order := r.Perm(many)[:r.Intn(many+1)]
		want := Next(l, order)
		for _, no := range noPlaces(many) {
			for at := range len(order) + 1 {
				with := slices.Insert(slices.Clone(order), at, no, no)
				if got := Next(l, with); !slices.Equal(got, want) {
					t.Fatalf("behind %v comes %v, behind %v comes %v, of\n%v", order, want, with, got, l)
				}
			}
		}
		if got := Next(l, slices.Concat(order, order)); !slices.Equal(got, want) {
			t.Fatalf("behind %v comes %v, behind it twice %v, of\n%v", order, want, got, l)
		}
		slices.Reverse(order)
		if got := Next(l, order); !slices.Equal(got, want) || !slices.IsSorted(got) {
			t.Fatalf("behind %v comes %v, not %v, of\n%v", order, got, want, l)
		}
	}
}

func TestNextOfManyOpers(t *testing.T) {
	for _, many := range []int{40, 41, 256, 1000} {
		for in := 0; in < many; in += 1 + many/7 {
			if got := Next(inRow(many), rising(in)); !slices.Equal(got, []int{in}) {
				t.Fatalf("behind %d of %d comes %v", in, many, got)
			}
			rest := rising(many)[in:]
			if got := Next(overlapping(many), rising(in)); !slices.Equal(got, rest) {
				t.Fatalf("behind %d of %d that overlap comes %v", in, many, got)
			}
			if got := Next(unansweredRow(many), rising(in)); !slices.Equal(got, rest) {
				t.Fatalf("behind %d of %d that aren't answered comes %v", in, many, got)
			}
		}
	}
}

func TestNextIsNewMemory(t *testing.T) {
	l := overlapping(5)
	for _, order := range [][]int{nil, {}, {3}, {4, 1, 0}, append(make([]int, 0, 20), 2, 0), {0, 1, 2, 3, 4}} {
		want := comesNext(l, order)
		was := slices.Clone(order)
		first, second := Next(l, order), Next(l, order)
		for i := range first {
			first[i] = -9
		}
		for range cap(first) - len(first) {
			first = append(first, -9)
		}
		if !slices.Equal(second, want) || !slices.Equal(order, was) || !slices.Equal(Next(l, order), want) {
			t.Errorf("behind %v comes %v, not %v", order, second, want)
		}
	}
}

// 16.3

// checkFollows holds, from nothing on, that whatever comes next goes on till all are in, and that the order may be as soon as all that are answered are in, and not before.
func checkFollows(t *testing.T, r *rand.Rand, l []api.Oper) {
	t.Helper()
	waiting := len(slices.DeleteFunc(slices.Clone(l), func(o api.Oper) bool { return o.To < 0 }))
	var order []int
	for {
		if got := May(l, order); got != (waiting == 0) {
			t.Fatalf("%v may be: %v, and %d that are answered aren't in, of\n%v", order, got, waiting, l)
		}
		next := Next(l, order)
		if !slices.Equal(next, comesNext(l, order)) {
			t.Fatalf("behind %v comes %v, not %v, of\n%v", order, next, comesNext(l, order), l)
		}
		if len(next) == 0 {
			break
		}
		place := next[r.Intn(len(next))]
		order = append(order, place)
		if l[place].To >= 0 {
			waiting--
		}
	}
	if len(order) != len(l) {
		t.Fatalf("behind %v comes nothing, of\n%v", order, l)
	}
}

func TestWhatComesNextMayBe(t *testing.T) {
	t.Parallel()
	r := rand.New(rand.NewSource(166))
	for range 1500 {
		checkFollows(t, r, someSpans(r, r.Intn(14)))
		checkFollows(t, r, walk(r, r.Intn(14)))
	}
	for range 20 {
		checkFollows(t, r, someSpans(r, 40))
		checkFollows(t, r, walk(r, 40))
	}
	for _, many := range []int{0, 1, 2, 40, 100} {
		checkFollows(t, r, inRow(many))
		checkFollows(t, r, overlapping(many))
		checkFollows(t, r, unansweredRow(many))
	}
}

// allNext goes through whatever comes next, from an order on, and tells how many whole orders there are.
func allNext(t *testing.T, l []api.Oper, order []int) int {
	t.Helper()
	check(t, l, order)
	if len(order) == len(l) {
		return 1
	}
	whole := 0
	for _, place := range Next(l, order) {
		whole += allNext(t, l, append(slices.Clone(order), place))
	}
	return whole
}

func TestAllThatComesNextIsAllThatMayBe(t *testing.T) {
	t.Parallel()
	r := rand.New(rand.NewSource(167))
	for range 60 {
		l := someSpans(r, 5)
		may := 0
		for _, order := range orders(5) {
			if len(order) == 5 && mayBe(l, order) {
				may++
			}
		}
		if whole := allNext(t, l, nil); whole != may {
			t.Fatalf("%d orders come next by next, and %d may be, of\n%v", whole, may, l)
		}
	}
}
