package hist

import (
	"math"
	"math/rand"
	"slices"
	"testing"

	"burnbag/api"
)

// check holds what is told of a history against the model, and the history against what it was.
func check(t *testing.T, l []api.Event) {
	t.Helper()
	// What lies ahead of the list, and behind, would go on with it.
	whole, part := laid(l, back(0, 1), begin(0, 2))
	kept := slices.Clone(whole)
	want, opers := mayBe(l), opersOf(l)
	for range 2 {
		if got := May(part); got != want {
			t.Fatalf("May is %v, not %v, of\n%v", got, want, l)
		}
		if got := Opers(part); !slices.Equal(got, opers) {
			t.Fatalf("Opers is\n%v, not\n%v, of\n%v", got, opers, l)
		}
	}
	if !slices.Equal(whole, kept) {
		t.Fatalf("what was handed in is\n%v, and was\n%v", whole, kept)
	}
	if want {
		checkFollows(t, l)
	}
}

// checkFollows holds what follows (14.3) against a history that may be.
func checkFollows(t *testing.T, l []api.Event) {
	t.Helper()
	opers := Opers(l)
	if got := Of(opers); !slices.Equal(got, l) {
		t.Fatalf("the events of its opers are\n%v, not\n%v", got, l)
	}
	for i, a := range opers {
		if Ahead(a, a) {
			t.Fatalf("%v is ahead of itself", a)
		}
		for j, b := range opers {
			if i < j && a.Thread == b.Thread && !Ahead(a, b) {
				t.Fatalf("%v isn't ahead of %v, of its thread", a, b)
			}
			if i < j && Ahead(b, a) {
				t.Fatalf("%v, which began later, is ahead of %v", b, a)
			}
			for _, c := range opers {
				if Ahead(a, b) && Ahead(b, c) && !Ahead(a, c) {
					t.Fatalf("%v is ahead of %v, and that of %v, alone", a, b, c)
				}
			}
		}
	}
}

// checkOf holds the events of opers against the model, and the opers against what they were.
func checkOf(t *testing.T, l []api.Oper) {
	t.Helper()
	whole, part := laid(l, api.Oper{Thread: 1, From: 0, To: 1}, api.Oper{Thread: 2, From: 0, To: 1})
	kept := slices.Clone(whole)
	for range 2 {
		if got, want := Of(part), eventsOf(l); !slices.Equal(got, want) {
			t.Fatalf("Of is\n%v, not\n%v, of\n%v", got, want, l)
		}
	}
	if !slices.Equal(whole, kept) {
		t.Fatalf("what was handed in is\n%v, and was\n%v", whole, kept)
	}
}

// oper is an oper with a call and an answer of its own.
func oper(n, from, to int) api.Oper {
	return api.Oper{Thread: n % 8, Call: someCall(10 * n), Answer: someAnswer(10 * n), From: from, To: to}
}

func TestExample(t *testing.T) {
	l := []api.Event{{Thread: 0}, {Thread: 1}, {Thread: 0, Back: true}}
	opers := Opers(l)
	if !May(l) || !slices.Equal(opers, []api.Oper{{Thread: 0, From: 0, To: 2}, {Thread: 1, From: 1, To: -1}}) {
		t.Fatalf("Opers is %v", opers)
	}
	if Ahead(opers[0], opers[1]) || Ahead(opers[1], opers[0]) {
		t.Error("one is ahead of the other")
	}
	if open := Open(opers); !slices.Equal(open, []int{1}) {
		t.Errorf("Open is %v", open)
	}
	if got := Of(opers); !slices.Equal(got, l) {
		t.Errorf("Of is %v", got)
	}
}

func TestOrdinaryHistory(t *testing.T) {
	put := api.Call{Op: api.Put, Level: 1, Key: 5, Pair: api.Pair{A: 1, B: 2}}
	get := api.Call{Op: api.Get, Level: 1, Key: 5}
	pop := api.Call{Op: api.Pop}
	full, pair := api.Answer{Err: api.ErrFull}, api.Answer{Pair: api.Pair{A: 1, B: 2}}
	l := []api.Event{
		{Thread: 3, Call: put}, {Thread: 0, Call: pop}, {Thread: 3, Back: true, Answer: full}, {Thread: 3, Call: put},
		{Thread: 7, Call: get}, {Thread: 3, Back: true}, {Thread: 7, Back: true, Answer: pair}, {Thread: 3, Call: get},
	}
	want := []api.Oper{
		{Thread: 3, Call: put, Answer: full, From: 0, To: 2}, {Thread: 0, Call: pop, From: 1, To: -1},
		{Thread: 3, Call: put, From: 3, To: 5}, {Thread: 7, Call: get, Answer: pair, From: 4, To: 6}, {Thread: 3, Call: get, From: 7, To: -1},
	}
	opers := Opers(l)
	if !May(l) || !slices.Equal(opers, want) {
		t.Fatalf("Opers is %v", opers)
	}
	if open := Open(opers); !slices.Equal(open, []int{1, 4}) {
		t.Errorf("Open is %v", open)
	}
	ahead := map[[2]int]int{{0, 2}: 1, {0, 3}: 1, {0, 4}: 1, {2, 4}: 1, {3, 4}: 1}
	for i, a := range opers {
		for j, b := range opers {
			if want := ahead[[2]int{i, j}] == 1; Ahead(a, b) != want {
				t.Errorf("oper %d is ahead of oper %d: %v", i, j, !want)
			}
		}
	}
	check(t, l)
}

func TestHistoriesThatMayBeAndSuchThatMayNot(t *testing.T) {
	b, a := func(thread int) api.Event { return begin(thread, 0) }, func(thread int) api.Event { return back(thread, 0) }
	for _, x := range []struct {
		about string
		l     []api.Event
		may   bool
		opers int
	}{
		{"nil", nil, true, 0},
		{"no events", []api.Event{}, true, 0},
		{"one beginning", []api.Event{b(0)}, true, 1},
		{"one beginning of the last thread", []api.Event{b(7)}, true, 1},
		{"a beginning without a call", []api.Event{{}}, true, 1},
		{"one answer", []api.Event{a(0)}, false, 0},
		{"one answer of the last thread", []api.Event{a(7)}, false, 0},
		{"an answer that tells nothing", []api.Event{{Back: true}}, false, 0},
		{"a beginning, and its answer", []api.Event{b(0), a(0)}, true, 1},
		{"an answer ahead of any beginning", []api.Event{a(0), b(0)}, false, 0},
		{"an answer ahead of a thread's first beginning", []api.Event{b(1), a(0), b(0)}, false, 0},
		{"an answer of another thread", []api.Event{b(0), a(1)}, false, 0},
		{"two beginnings", []api.Event{b(0), b(0)}, false, 0},
		{"two beginnings, and another thread's between them", []api.Event{b(0), b(1), a(1), b(0)}, false, 0},
		{"two beginnings behind an answer", []api.Event{b(0), a(0), b(0), b(0)}, false, 0},
		{"two beginnings, and two answers", []api.Event{b(0), b(0), a(0), a(0)}, false, 0},
		{"two answers", []api.Event{b(0), a(0), a(0)}, false, 0},
		{"two answers, and another thread's events between them", []api.Event{b(0), a(0), b(1), a(1), a(0)}, false, 0},
		{"two answers, and another thread within its call", []api.Event{b(0), b(1), a(0), a(0)}, false, 0},
		{"twice in turn", []api.Event{b(0), a(0), b(0), a(0)}, true, 2},
		{"crossed", []api.Event{b(0), b(1), a(0), a(1)}, true, 2},
		{"one within the other", []api.Event{b(0), b(7), a(7), a(0)}, true, 2},
		{"all threads, none answered", events(7, 6, 5, 4, 3, 2, 1, 0), true, 8},
		{"all threads, all answered", events(0, 1, 2, 3, 4, 5, 6, 7, 7, 6, 5, 4, 3, 2, 1, 0), true, 8},
		{"a thread below all behind others", []api.Event{b(0), a(0), b(-1)}, false, 0},
		{"a thread above all behind others", []api.Event{b(0), a(0), b(8)}, false, 0},
	} {
		if got := May(x.l); got != x.may {
			t.Errorf("%s: May is %v", x.about, got)
		}
		if got := Opers(x.l); len(got) != x.opers {
			t.Errorf("%s: Opers is %v", x.about, got)
		}
		check(t, x.l)
	}
}

func TestThreads(t *testing.T) {
	for _, thread := range ints() {
		want := thread >= 0 && thread <= 7
		for _, l := range [][]api.Event{
			{begin(thread, 1)}, {begin(thread, 1), back(thread, 2)}, {{Thread: thread}}, {{Thread: thread}, {Thread: thread, Back: true}},
			{begin(thread, 1), back(thread, 2), begin(thread, 3)},
		} {
			if May(l) != want || len(Opers(l)) != 0 != want {
				t.Errorf("thread %d: %v, %v", thread, May(l), Opers(l))
			}
			check(t, l)
		}
		if l := []api.Event{back(thread, 1)}; May(l) || len(Opers(l)) != 0 {
			t.Errorf("thread %d is answered first", thread)
		}
		// An event of that thread alone, at each place of a history of others.
		others := numbered(events(0, 3, 0, 7, 7, 3))
		for place := range len(others) + 1 {
			check(t, slices.Insert(slices.Clone(others), place, begin(thread, 50)))
			check(t, slices.Insert(slices.Clone(others), place, back(thread, 50)))
		}
	}
}

func TestFortyBeginnings(t *testing.T) {
	alone := func(begun int) []api.Event {
		return numbered(events(slices.Repeat([]int{0}, 2*begun)...))
	}
	inTurn := func(begun int) []api.Event {
		var threads []int
		for i := range begun {
			threads = append(threads, i%8)
			if i >= 3 {
				threads = append(threads, (i-3)%8)
			}
		}
		return numbered(events(threads...))
	}
	for _, x := range []struct {
		about string
		l     []api.Event
		opers int
		may   bool
	}{
		{"39, all answered", alone(39), 39, true},
		{"40, all answered", alone(40), 40, true},
		{"40, the last one not answered", alone(40)[:79], 40, true},
		{"41, all answered", alone(41), 0, false},
		{"41, the last one not answered", alone(41)[:81], 0, false},
		{"40 of all threads", inTurn(40), 40, true},
		{"41 of all threads", inTurn(41), 0, false},
		{"41 of all threads, answered", append(inTurn(41), back(38%8, 1), back(39%8, 2), back(40%8, 3)), 0, false},
		{"40 of all threads, answered", append(inTurn(40), back(37%8, 1), back(38%8, 2), back(39%8, 3)), 40, true},
		{"40 of all threads, and another one's answer", append(inTurn(40), back(36%8, 1)), 0, false},
		{"40, and one of another thread", append(alone(40), begin(5, 1)), 0, false},
		{"40, and an answer", append(alone(40), back(0, 1)), 0, false},
		{"256", alone(256), 0, false},
		{"1000", alone(1000), 0, false},
	} {
		if got := May(x.l); got != x.may {
			t.Errorf("%s: May is %v", x.about, got)
		}
		if got := Opers(x.l); len(got) != x.opers {
			t.Errorf("%s: there are %d opers", x.about, len(got))
		}
		check(t, x.l)
	}
}

func TestBeginningsHaveNoAnswer(t *testing.T) {
	for _, a := range append(bareAnswers(), someAnswer(1)) {
		for _, l := range [][]api.Event{
			{{Answer: a}},
			{{Call: someCall(1), Answer: a}},
			{begin(0, 1), {Thread: 1, Answer: a}},
			{begin(0, 1), back(0, 2), {Call: someCall(1), Answer: a}, back(0, 3)},
		} {
			if May(l) || len(Opers(l)) != 0 {
				t.Errorf("a beginning has the answer %v: %v", a, Opers(l))
			}
			check(t, l)
		}
	}
}

func TestAnswersHaveNoCall(t *testing.T) {
	for _, c := range append(bareCalls(), someCall(1)) {
		for _, l := range [][]api.Event{
			{begin(0, 1), {Back: true, Call: c}},
			{{}, {Back: true, Call: c, Answer: someAnswer(1)}},
			{{Call: c}, {Back: true, Call: c}},
			{begin(0, 1), begin(4, 2), {Thread: 4, Back: true, Call: c}, back(0, 3)},
			{{Back: true, Call: c}},
		} {
			if May(l) || len(Opers(l)) != 0 {
				t.Errorf("an answer has the call %v: %v", c, Opers(l))
			}
			check(t, l)
		}
	}
}

func TestAnyCallsAndAnswersAreTold(t *testing.T) {
	for _, c := range append(bareCalls(), api.Call{}, someCall(1)) {
		l := []api.Event{begin(1, 1), {Call: c}, back(1, 2), {Back: true}}
		want := []api.Oper{{Thread: 1, Call: someCall(1), Answer: someAnswer(2), To: 2}, {Call: c, From: 1, To: 3}}
		if !May(l) || !slices.Equal(Opers(l), want) {
			t.Errorf("Opers is %v, not %v", Opers(l), want)
		}
		check(t, l)
	}
	for _, a := range append(bareAnswers(), api.Answer{}, someAnswer(1)) {
		l := []api.Event{begin(1, 1), {}, back(1, 2), {Back: true, Answer: a}}
		want := []api.Oper{{Thread: 1, Call: someCall(1), Answer: someAnswer(2), To: 2}, {Answer: a, From: 1, To: 3}}
		if !May(l) || !slices.Equal(Opers(l), want) {
			t.Errorf("Opers is %v, not %v", Opers(l), want)
		}
		check(t, l)
	}
}

func TestEveryShortHistory(t *testing.T) {
	t.Parallel()
	some := []api.Event{
		begin(0, 1), back(0, 2), begin(7, 3), back(7, 4), {Thread: 2}, {Thread: 2, Back: true},
		begin(8, 5), {Answer: api.Answer{N: 1}}, {Thread: 7, Back: true, Call: api.Call{Level: 1}},
	}
	var longer func(l []api.Event, more int)
	longer = func(l []api.Event, more int) {
		check(t, l)
		if more == 0 {
			return
		}
		for _, e := range some {
			longer(append(slices.Clone(l), e), more-1)
		}
	}
	longer(nil, 5)
}

func TestEveryHistoryOfThreeThreads(t *testing.T) {
	t.Parallel()
	// Each thread begins where it may, and is answered where it may: all that may be, of up to eight events.
	var longer func(threads []int)
	longer = func(threads []int) {
		l := numbered(events(threads...))
		if !May(l) {
			t.Fatalf("%v may not be", l)
		}
		check(t, l)
		if len(threads) == 8 {
			return
		}
		for _, thread := range []int{0, 3, 7} {
			longer(append(slices.Clone(threads), thread))
		}
	}
	longer(nil)
}

func TestManyHistories(t *testing.T) {
	t.Parallel()
	r := rand.New(rand.NewSource(14))
	for range 400 {
		l := walk(r, r.Intn(81))
		if !May(l) {
			t.Fatalf("%v may not be", l)
		}
		check(t, l)
		// Another event in it, one that is gone, two that are swapped, one that is another thread's: it may be, or not.
		for range 5 {
			place := r.Intn(len(l) + 1)
			check(t, slices.Insert(slices.Clone(l), place, begin(r.Intn(8), 1)))
			check(t, slices.Insert(slices.Clone(l), place, back(r.Intn(8), 1)))
			if place == len(l) {
				continue
			}
			check(t, slices.Delete(slices.Clone(l), place, place+1))
			own := slices.Clone(l)
			other := r.Intn(len(l))
			own[place], own[other] = own[other], own[place]
			check(t, own)
			own[place].Thread = r.Intn(10) - 1
			check(t, own)
		}
	}
}

func TestAhead(t *testing.T) {
	for _, x := range []struct {
		a, b api.Oper
		want bool
	}{
		{api.Oper{From: 0, To: 1}, api.Oper{From: 2, To: 3}, true},
		{api.Oper{From: 2, To: 3}, api.Oper{From: 0, To: 1}, false},
		{api.Oper{From: 0, To: 1}, api.Oper{From: 1, To: 2}, false},
		{api.Oper{From: 0, To: 0}, api.Oper{From: 0, To: 0}, false},
		{api.Oper{From: 0, To: 0}, api.Oper{From: 1, To: -1}, true},
		{api.Oper{From: 0, To: -1}, api.Oper{From: 1, To: 2}, false},
		{api.Oper{From: 0, To: -1}, api.Oper{From: 0, To: -1}, false},
		{api.Oper{From: 0, To: math.MinInt}, api.Oper{From: math.MaxInt, To: math.MaxInt}, false},
		{api.Oper{From: 0, To: math.MaxInt}, api.Oper{From: math.MaxInt}, false},
		{api.Oper{From: 0, To: math.MaxInt - 1}, api.Oper{From: math.MaxInt}, true},
		{api.Oper{From: 0, To: 0}, api.Oper{From: math.MaxInt}, true},
		{api.Oper{From: 0, To: math.MaxInt}, api.Oper{From: math.MinInt}, false},
		{api.Oper{From: 0, To: -2}, api.Oper{From: -1}, false},
		{api.Oper{From: 9, To: 4}, api.Oper{From: 5, To: 2}, true},
	} {
		if got := Ahead(x.a, x.b); got != x.want {
			t.Errorf("%v is ahead of %v: %v", x.a, x.b, got)
		}
	}
}

func TestAheadGoesByTwoPlacesAlone(t *testing.T) {
	for _, to := range ints() {
		for _, from := range ints() {
			want := to > -1 && from > to
			for _, a := range []api.Oper{{To: to}, oper(3, 5, to), oper(4, math.MaxInt, to), oper(9, math.MinInt, to), oper(5, -1, to), {Thread: -1, To: to}, {Thread: math.MaxInt, From: 2, To: to}} {
				for _, b := range []api.Oper{{From: from}, {From: from, To: -1}, oper(3, from, 5), oper(6, from, math.MaxInt), oper(9, from, math.MinInt), {Thread: 8, From: from}, {Thread: math.MinInt, From: from, To: 3}} {
					if Ahead(a, b) != want {
						t.Errorf("%v is ahead of %v: %v", a, b, !want)
					}
				}
			}
		}
	}
}

func TestOpen(t *testing.T) {
	answered, not := oper(1, 5, 0), oper(2, 0, -1)
	for _, x := range []struct {
		l    []api.Oper
		want []int
	}{
		{nil, nil},
		{[]api.Oper{}, nil},
		{[]api.Oper{{}}, nil},
		{[]api.Oper{answered}, nil},
		{[]api.Oper{not}, []int{0}},
		{[]api.Oper{answered, not, not, answered}, []int{1, 2}},
		{[]api.Oper{not, answered, answered, not}, []int{0, 3}},
		{[]api.Oper{answered, oper(3, 1, -2), oper(3, 1, math.MinInt), oper(3, 1, math.MaxInt), oper(3, -1, 4), oper(3, -1, -1)}, []int{1, 2, 5}},
		{[]api.Oper{{Thread: -5, From: math.MinInt, To: -1 << 32}, {Thread: 9, From: 1 << 40, To: 1 << 32}}, []int{0}},
	} {
		whole, part := laid(x.l, not, not)
		kept := slices.Clone(whole)
		for range 2 {
			if got := Open(part); !slices.Equal(got, x.want) {
				t.Errorf("Open is %v of %v", got, x.l)
			}
		}
		if !slices.Equal(whole, kept) {
			t.Errorf("%v was handed in, and is %v", kept, whole)
		}
	}
	var l []api.Oper
	var want []int
	for i, to := range ints() {
		for _, from := range []int{math.MinInt, -1, 0, 3, math.MaxInt} {
			if to < 0 {
				want = append(want, len(l))
			}
			l = append(l, oper(i, from, to))
		}
	}
	if got := Open(l); !slices.Equal(got, want) {
		t.Errorf("Open is %v, not %v", got, want)
	}
}

func TestOpenOfHistories(t *testing.T) {
	r := rand.New(rand.NewSource(15))
	for range 200 {
		l := walk(r, r.Intn(81))
		open := Open(Opers(l))
		// There are as many as threads have an odd number of events, and each one is the last of its thread.
		odd := 0
		for thread := range 8 {
			n := 0
			for _, e := range l {
				if e.Thread == thread {
					n++
				}
			}
			odd += n % 2
		}
		if len(open) != odd || !slices.IsSorted(open) {
			t.Fatalf("Open is %v, of which there should be %d", open, odd)
		}
		for _, place := range open {
			if o := Opers(l)[place]; o.To != -1 || o.Answer != (api.Answer{}) {
				t.Fatalf("%v is open", o)
			}
		}
	}
}

// beginOf is the beginning of an oper of its own.
func beginOf(n int) api.Event {
	return begin(n%8, 10*n)
}

// endOf is the answer of an oper of its own.
func endOf(n int) api.Event {
	return back(n%8, 10*n)
}

func TestOf(t *testing.T) {
	b, e := beginOf, endOf
	for _, x := range []struct {
		about string
		l     []api.Oper
		want  []api.Event
	}{
		{"nil", nil, nil},
		{"none", []api.Oper{}, nil},
		{"one", []api.Oper{oper(1, 0, 1)}, []api.Event{b(1), e(1)}},
		{"noughts", []api.Oper{{}}, []api.Event{{}, {Back: true}}},
		{"one that isn't answered", []api.Oper{oper(1, 0, -1)}, []api.Event{b(1)}},
		{"one that isn't answered, far from nought", []api.Oper{oper(1, math.MaxInt, math.MinInt)}, []api.Event{b(1)}},
		{"one with From below 0", []api.Oper{oper(1, -1, 3)}, nil},
		{"one with both below 0", []api.Oper{oper(1, -1, -1)}, nil},
		{"in order", []api.Oper{oper(1, 0, 1), oper(2, 2, 3)}, []api.Event{b(1), e(1), b(2), e(2)}},
		{"the other way round", []api.Oper{oper(2, 2, 3), oper(1, 0, 1)}, []api.Event{b(1), e(1), b(2), e(2)}},
		{"crossed", []api.Oper{oper(2, 1, 3), oper(1, 0, 2)}, []api.Event{b(1), b(2), e(1), e(2)}},
		{"From and To are one place", []api.Oper{oper(1, 4, 4)}, []api.Event{b(1), e(1)}},
		{"all places are one", []api.Oper{oper(2, 4, 4), oper(1, 4, 4), oper(3, 4, 4)}, []api.Event{b(2), b(1), b(3), e(2), e(1), e(3)}},
		{"two begin at one place", []api.Oper{oper(2, 4, 6), oper(1, 4, 5)}, []api.Event{b(2), b(1), e(1), e(2)}},
		{"two end at one place", []api.Oper{oper(2, 3, 6), oper(1, 2, 6)}, []api.Event{b(1), b(2), e(2), e(1)}},
		{"one ends where another one begins", []api.Oper{oper(1, 0, 2), oper(2, 2, 3)}, []api.Event{b(1), b(2), e(1), e(2)}},
		{"one begins where another one ends", []api.Oper{oper(2, 2, 3), oper(1, 0, 2)}, []api.Event{b(1), b(2), e(1), e(2)}},
		{"far apart", []api.Oper{oper(2, math.MaxInt-1, math.MaxInt), oper(1, 1<<32, 1<<62), oper(3, 0, 1<<40)}, []api.Event{b(3), b(1), e(3), e(1), b(2), e(2)}},
		{"From below 0, among others", []api.Oper{oper(1, 0, 5), oper(2, -1, 3), oper(3, math.MinInt, 0), oper(4, 1, 2)}, []api.Event{b(1), b(4), e(4), e(1)}},
		{"To below 0, among others", []api.Oper{oper(1, 0, -1), oper(2, 1, 3), oper(3, 2, -7), oper(4, 4, math.MinInt)}, []api.Event{b(1), b(2), b(3), e(2), b(4)}},
		{"To less than From", []api.Oper{oper(1, 3, 2)}, []api.Event{e(1), b(1)}},
		{"To less than From, among others", []api.Oper{oper(1, 3, 0), oper(2, 0, 3)}, []api.Event{b(2), e(1), b(1), e(2)}},
		{"twice the same", []api.Oper{oper(1, 0, 1), oper(1, 0, 1)}, []api.Event{b(1), b(1), e(1), e(1)}},
		{"threads that there aren't", []api.Oper{{Thread: -1, From: 1, To: 2}, {Thread: math.MaxInt, To: 3}}, []api.Event{{Thread: math.MaxInt}, {Thread: -1}, {Thread: -1, Back: true}, {Thread: math.MaxInt, Back: true}}},
	} {
		if got := Of(x.l); !slices.Equal(got, x.want) {
			t.Errorf("%s: Of is\n%v, not\n%v", x.about, got, x.want)
		}
		checkOf(t, x.l)
	}
}

func TestOfEveryFewPlaces(t *testing.T) {
	t.Parallel()
	places := []int{-2, -1, 0, 1, 2}
	var pairs [][2]int
	for _, from := range places {
		for _, to := range places {
			pairs = append(pairs, [2]int{from, to})
		}
	}
	for _, p := range pairs {
		checkOf(t, []api.Oper{oper(5, p[0], p[1])})
		for _, q := range pairs {
			checkOf(t, []api.Oper{oper(5, p[0], p[1]), oper(2, q[0], q[1])})
			for _, r := range pairs {
				checkOf(t, []api.Oper{oper(5, p[0], p[1]), oper(2, q[0], q[1]), oper(5, r[0], r[1])})
			}
		}
	}
}

func TestOfManyOpers(t *testing.T) {
	t.Parallel()
	r := rand.New(rand.NewSource(16))
	for _, places := range []func() int{
		func() int { return r.Intn(3) },
		func() int { return r.Intn(40) - 10 },
		func() int { return ints()[r.Intn(len(ints()))] },
		func() int { return int(r.Uint64()) },
		func() int { return r.Int() },
	} {
		for _, many := range []int{2, 5, 12, 13, 40, 41, 100, 300} {
			for range 8 {
				var l []api.Oper
				for i := range many {
					l = append(l, oper(i, places(), places()))
				}
				checkOf(t, l)
			}
		}
	}
}

func TestOfGoesByTheOrderOfPlacesAlone(t *testing.T) {
	r := rand.New(rand.NewSource(17))
	for range 200 {
		l := walk(r, r.Intn(81))
		opers := Opers(l)
		r.Shuffle(len(opers), func(i, j int) { opers[i], opers[j] = opers[j], opers[i] })
		if got := Of(opers); !slices.Equal(got, l) {
			t.Fatalf("Of opers in another order is\n%v, not\n%v", got, l)
		}
		for i := range opers {
			opers[i].From = 1000*opers[i].From + 7
			if opers[i].To >= 0 {
				opers[i].To = 1000*opers[i].To + 7
			}
		}
		if got := Of(opers); !slices.Equal(got, l) {
			t.Fatalf("Of opers far apart is\n%v, not\n%v", got, l)
		}
	}
}

func TestWhatIsToldIsNewMemory(t *testing.T) {
	l := numbered(events(0, 1, 0, 2, 0))
	opers := Opers(l)
	open, of := Open(opers), Of(opers)
	for i := range l {
		l[i] = api.Event{Thread: 99}
	}
	if want := opersOf(numbered(events(0, 1, 0, 2, 0))); !slices.Equal(opers, want) {
		t.Errorf("the opers go on as the events: %v", opers)
	}
	other, otherOpen, otherOf := slices.Clone(opers), Open(opers), Of(opers)
	for i := range opers {
		opers[i] = api.Oper{Thread: 99, From: -1, To: -1}
	}
	if !slices.Equal(of, numbered(events(0, 1, 0, 2, 0))) || !slices.Equal(open, []int{1, 2, 3}) {
		t.Errorf("what was told goes on as the opers: %v, %v", of, open)
	}
	clear(of)
	clear(open)
	if !slices.Equal(otherOf, eventsOf(other)) || !slices.Equal(otherOpen, []int{1, 2, 3}) {
		t.Errorf("what was told twice is one: %v, %v", otherOf, otherOpen)
	}
	if got := Opers(numbered(events(0, 1, 0, 2, 0))); !slices.Equal(got, other) {
		t.Errorf("Opers is now %v", got)
	}
}
