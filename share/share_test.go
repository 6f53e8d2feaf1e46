package share

import (
	"math/rand"
	"slices"
	"testing"

	"burnbag/api"
)

// check holds all that is told of a list against the model, and the list against what it was.
func check(t *testing.T, l []api.Oper) {
	t.Helper()
	whole, part := laid(l)
	was := slices.Clone(whole)
	for range 2 {
		all := All(part)
		for level := range 4 {
			for p := range 4 {
				want := shared(l, level, p)
				if got := Of(part, level, p); !slices.Equal(got, want) {
					t.Fatalf("Of level %d, part %d, is\n%v, not\n%v, of\n%v", level, p, got, want, l)
				}
				if got := all[4*level+p]; !slices.Equal(got, want) {
					t.Fatalf("share %d of all is\n%v, not\n%v, of\n%v", 4*level+p, got, want, l)
				}
			}
		}
	}
	if !slices.Equal(whole, was) {
		t.Fatalf("what was handed in is\n%v, and was\n%v", whole, was)
	}
	checkFollows(t, l)
}

// checkFollows holds what follows (15.3): each oper is in one share at most, and only those of no part, and of no level, are in none.
func checkFollows(t *testing.T, l []api.Oper) {
	t.Helper()
	// Each oper is known again by its place.
	own := slices.Clone(l)
	for i := range own {
		own[i].From = i
	}
	in := make([]int, len(own))
	for share, opers := range All(own) {
		for _, o := range opers {
			if o != own[o.From] {
				t.Fatalf("share %d has %v, which the list hasn't", share, o)
			}
			if which, ok := Which(o); !ok || which != share {
				t.Fatalf("share %d has %v, of which Which is %d, %v", share, o, which, ok)
			}
			in[o.From]++
		}
	}
	for i, o := range own {
		want := 1
		if o.Call.Op < 0 || o.Call.Op >= api.Tend || o.Call.Level < 0 || o.Call.Level > 3 {
			want = 0
		}
		if in[i] != want {
			t.Fatalf("%v is in %d shares, not %d", o, in[i], want)
		}
	}
}

func TestExample(t *testing.T) {
	put, push := api.Oper{}, api.Oper{Call: api.Call{Op: api.Push, Level: 1}}
	if which, ok := Which(put); which != 0 || !ok {
		t.Errorf("Put at level 0 is of share %d, %v", which, ok)
	}
	if which, ok := Which(push); which != 6 || !ok {
		t.Errorf("Push at level 1 is of share %d, %v", which, ok)
	}
	all := All([]api.Oper{put, push})
	for share, opers := range all {
		var want []api.Oper
		switch share {
		case 0:
			want = []api.Oper{put}
		case 6:
			want = []api.Oper{push}
		}
		if !slices.Equal(opers, want) {
			t.Errorf("share %d is %v", share, opers)
		}
	}
}

// 15.1

func TestWhich(t *testing.T) {
	for _, x := range []struct {
		op    int
		share [4]int // at each level
	}{
		{api.Put, [4]int{0, 4, 8, 12}}, {api.Get, [4]int{0, 4, 8, 12}}, {api.Del, [4]int{0, 4, 8, 12}},
		{api.Store, [4]int{1, 5, 9, 13}}, {api.Fetch, [4]int{1, 5, 9, 13}}, {api.Drop, [4]int{1, 5, 9, 13}},
		{api.Push, [4]int{2, 6, 10, 14}}, {api.Pop, [4]int{2, 6, 10, 14}}, {api.Peek, [4]int{2, 6, 10, 14}},
		{api.New, [4]int{3, 7, 11, 15}}, {api.Read, [4]int{3, 7, 11, 15}}, {api.Free, [4]int{3, 7, 11, 15}},
	} {
		for level, want := range x.share {
			for _, o := range others() {
				o.Call.Op, o.Call.Level = x.op, level
				if got, ok := Which(o); got != want || !ok {
					t.Errorf("%v is of share %d, %v, not %d", o, got, ok, want)
				}
			}
		}
	}
}

func TestWhichOfNone(t *testing.T) {
	none := func(op, level int, bare []api.Oper) {
		for _, o := range bare {
			o.Call.Op, o.Call.Level = op, level
			if got, ok := Which(o); got != 0 || ok {
				t.Errorf("%v is of share %d, %v", o, got, ok)
			}
		}
	}
	for _, level := range ints() {
		none(api.Tend, level, others())
	}
	for _, op := range noOps() {
		for _, level := range ints() {
			none(op, level, others()[:5])
		}
		for level := range 4 {
			none(op, level, others())
		}
	}
	for _, level := range noQuarters() {
		for op := range api.AllCalls {
			none(op, level, others())
		}
	}
}

func TestWhichOfAllNumbers(t *testing.T) {
	for _, op := range ints() {
		for _, level := range ints() {
			o := oper(5, op, level)
			want, in := shareOf(o), true
			if want < 0 {
				want, in = 0, false
			}
			if got, ok := Which(o); got != want || ok != in {
				t.Errorf("%v is of share %d, %v, not %d, %v", o, got, ok, want, in)
			}
		}
	}
}

func TestOfEachShare(t *testing.T) {
	for level := range 4 {
		for part := range 4 {
			first, second, third := opsOf(part)[0], opsOf(part)[1], opsOf(part)[2]
			a, b, c := oper(20, first, level), oper(10, second, level), oper(30, third, level)
			away := oper(40, first, (level+1)%4)
			beside := oper(50, opsOf((part + 1) % 4)[0], level)
			tend, nowhere, noOp := oper(60, api.Tend, level), oper(70, first, level+4), oper(80, -1, level)
			for _, x := range []struct {
				about   string
				l, want []api.Oper
			}{
				{"nil", nil, nil},
				{"none", []api.Oper{}, nil},
				{"one", []api.Oper{a}, []api.Oper{a}},
				{"one of no share", []api.Oper{tend}, nil},
				{"one of another level", []api.Oper{away}, nil},
				{"one of another part", []api.Oper{beside}, nil},
				{"some of one share", []api.Oper{a, b, c}, []api.Oper{a, b, c}},
				{"the other way round", []api.Oper{c, b, a}, []api.Oper{c, b, a}},
				{"the same one twice", []api.Oper{b, a, b}, []api.Oper{b, a, b}},
				{"others ahead", []api.Oper{away, beside, tend, a}, []api.Oper{a}},
				{"others behind", []api.Oper{c, nowhere, noOp, away}, []api.Oper{c}},
				{"others between", []api.Oper{c, tend, away, a, nowhere, noOp, beside, b}, []api.Oper{c, a, b}},
				{"others alone", []api.Oper{tend, nowhere, noOp, away, beside}, nil},
			} {
				if got := Of(x.l, level, part); !slices.Equal(got, x.want) {
					t.Errorf("level %d, part %d, of %s: Of is\n%v, not\n%v", level, part, x.about, got, x.want)
				}
				if got := All(x.l)[4*level+part]; !slices.Equal(got, x.want) {
					t.Errorf("level %d, part %d, of %s: in All it is\n%v, not\n%v", level, part, x.about, got, x.want)
				}
				check(t, x.l)
			}
		}
	}
}

func TestOfManyOfOneShare(t *testing.T) {
	for level := range 4 {
		for part := range 4 {
			for _, many := range []int{40, 41, 255, 256, 257, 1000} {
				var l []api.Oper
				for i := range many {
					l = append(l, oper(many-i, opsOf(part)[i%3], level))
				}
				if got := Of(l, level, part); !slices.Equal(got, l) {
					t.Errorf("level %d, part %d: Of has %d of %d", level, part, len(got), many)
				}
				for share, opers := range All(l) {
					if share == 4*level+part != slices.Equal(opers, l) || share != 4*level+part && len(opers) != 0 {
						t.Errorf("level %d, part %d: share %d of all has %d of %d", level, part, share, len(opers), many)
					}
				}
			}
		}
	}
}

func TestOfKeepsWhatOpersAre(t *testing.T) {
	for level := range 4 {
		for part := range 4 {
			l := others()
			for i := range l {
				l[i].Call.Op, l[i].Call.Level = opsOf(part)[i%3], level
			}
			if got := Of(l, level, part); !slices.Equal(got, l) {
				t.Errorf("level %d, part %d: Of is\n%v, not\n%v", level, part, got, l)
			}
			if got := All(l)[4*level+part]; !slices.Equal(got, l) {
				t.Errorf("level %d, part %d: in All it is\n%v, not\n%v", level, part, got, l)
			}
		}
	}
}

func TestOfNoSuchShare(t *testing.T) {
	l := everywhere()
	for _, no := range noQuarters() {
		for _, n := range ints() {
			if got := Of(l, no, n); len(got) != 0 {
				t.Errorf("Of level %d, part %d, is %v", no, n, got)
			}
			if got := Of(l, n, no); len(got) != 0 {
				t.Errorf("Of level %d, part %d, is %v", n, no, got)
			}
		}
		if got := Of(nil, no, no); len(got) != 0 {
			t.Errorf("Of level and part %d of nil is %v", no, got)
		}
	}
}

func TestAll(t *testing.T) {
	for share, opers := range All(nil) {
		if len(opers) != 0 {
			t.Errorf("share %d of nil is %v", share, opers)
		}
	}
	var none []api.Oper
	for _, o := range everywhere() {
		if shareOf(o) < 0 {
			none = append(none, o)
		}
	}
	for share, opers := range All(none) {
		if len(opers) != 0 {
			t.Errorf("share %d of those of none is %v", share, opers)
		}
	}
	// One of each share, from behind, and one of none behind each.
	var l, want []api.Oper
	for share := 15; share >= 0; share-- {
		o := oper(100+share, opsOf(share % 4)[1], share/4)
		l, want = append(l, o, oper(share, api.Tend, share/4)), append(want, o)
	}
	for share, opers := range All(l) {
		if !slices.Equal(opers, want[15-share:16-share]) {
			t.Errorf("share %d is %v", share, opers)
		}
	}
	check(t, nil)
	check(t, none)
	check(t, l)
	check(t, everywhere())
}

// checkOwn holds that lists share no memory with each other: each one, appended to and written over, leaves the others as they were.
func checkOwn(t *testing.T, lists ...[]api.Oper) {
	t.Helper()
	was := make([][]api.Oper, len(lists))
	for i, l := range lists {
		was[i] = slices.Clone(l)
	}
	for i, l := range lists {
		for j := range l {
			l[j] = oper(-99, -9, -9)
		}
		// What its capacity takes in lies in no other list either.
		for range cap(l) - len(l) {
			l = append(l, oper(-98, -8, -8))
		}
		for j := range lists {
			if j > i && !slices.Equal(lists[j], was[j]) {
				t.Fatalf("list %d goes on as list %d: %v", j, i, lists[j])
			}
		}
	}
	for i := range lists {
		copy(lists[i], was[i])
	}
}

func TestWhatIsToldIsNewMemory(t *testing.T) {
	f := threads(4, 0, 1, 2, 3, 3, 2, 1, 0)
	one := []api.Oper{oper(9, api.Pop, 2)}
	for _, l := range [][]api.Oper{nil, one, {oper(1, api.Put, 0), oper(2, api.Put, 0), oper(3, api.Free, 3)}, everywhere()} {
		was := slices.Clone(l)
		for _, cut := range [][]api.Oper{l, slices.Grow(l, 100)[:len(l)]} {
			lists := [][]api.Oper{cut}
			for range 2 {
				all := All(cut)
				lists = append(lists, all[:]...)
				for level := range 4 {
					for part := range 4 {
						lists = append(lists, Of(cut, level, part))
					}
					lists = append(lists, UpTo(cut, f, level))
				}
			}
			checkOwn(t, lists...)
			slices.Reverse(lists)
			checkOwn(t, lists...)
			if !slices.Equal(l, was) {
				t.Fatalf("the list is %v, and was %v", l, was)
			}
			check(t, cut)
		}
	}
}

func TestManyLists(t *testing.T) {
	t.Parallel()
	r := rand.New(rand.NewSource(15))
	for range 600 {
		check(t, some(r, r.Intn(60)))
	}
	for _, many := range []int{40, 41, 256, 1000} {
		check(t, some(r, many))
	}
}

// 15.2

// checkUpTo holds what is told up to a level against what is wanted, and the list against what it was.
func checkUpTo(t *testing.T, l []api.Oper, f api.Conf, level int, want []api.Oper) {
	t.Helper()
	whole, part := laid(l)
	was := slices.Clone(whole)
	for range 2 {
		if got := UpTo(part, f, level); !slices.Equal(got, want) {
			t.Fatalf("UpTo %d of %+v is\n%v, not\n%v", level, f, got, want)
		}
	}
	if !slices.Equal(whole, was) {
		t.Fatalf("what was handed in is\n%v, and was\n%v", whole, was)
	}
}

// ofThreads is opers of these threads, of ops and levels that have nothing to do with the threads' own.
func ofThreads(threads ...int) []api.Oper {
	var l []api.Oper
	for i, thread := range threads {
		o := oper(i, (7*i+12)%16-1, (5*i)%6-1)
		o.Thread = thread
		l = append(l, o)
	}
	return l
}

func TestUpTo(t *testing.T) {
	l := ofThreads(4, 0, 3, 1, 0, 2, 4, 5, -1, 1, 3, 8)
	pick := func(places ...int) []api.Oper {
		var picked []api.Oper
		for _, place := range places {
			picked = append(picked, l[place])
		}
		return picked
	}
	each := threads(4, 2, 0, 3, 1, 0)
	alone := threads(4, 1, 1, 1, 1, 1)
	two := threads(2, 1, 0)
	for _, x := range []struct {
		f     api.Conf
		level int
		want  []api.Oper
	}{
		{each, -1, nil},
		{each, 0, pick(0, 3, 6, 9)},
		{each, 1, pick(0, 2, 3, 6, 9, 10)},
		{each, 2, pick(0, 1, 2, 3, 4, 6, 9, 10)},
		{each, 3, pick(0, 1, 2, 3, 4, 5, 6, 9, 10)},
		{each, 4, pick(0, 1, 2, 3, 4, 5, 6, 9, 10)},
		{alone, 0, nil},
		{alone, 1, pick(0, 1, 2, 3, 4, 5, 6, 9, 10)},
		{alone, 3, pick(0, 1, 2, 3, 4, 5, 6, 9, 10)},
		{two, -1, nil},
		{two, 0, pick(3, 9)},
		{two, 1, pick(1, 3, 4, 9)},
		{two, 2, pick(1, 3, 4, 9)},
	} {
		checkUpTo(t, l, x.f, x.level, x.want)
		checkUpTo(t, nil, x.f, x.level, nil)
		checkUpTo(t, []api.Oper{}, x.f, x.level, nil)
	}
}

func TestUpToOfAllThreadsAndLevels(t *testing.T) {
	l := ofThreads(slices.Concat(ints(), []int{7, 6, 5, 4, 3, 2, 1, 0, 0, 7})...)
	for _, f := range confs() {
		for _, level := range ints() {
			checkUpTo(t, l, f, level, upTo(l, f, level))
		}
	}
}

func TestUpToEndsOfLevels(t *testing.T) {
	l := ofThreads(slices.Concat(ints(), []int{7, 6, 5, 4, 3, 2, 1, 0})...)
	for _, f := range confs() {
		there := kept(l, func(o api.Oper) bool { return o.Thread >= 0 && o.Thread < f.Threads })
		for _, level := range ints() {
			if level < 0 {
				checkUpTo(t, l, f, level, nil)
			}
			if level >= f.Levels-1 {
				checkUpTo(t, l, f, level, there)
			}
		}
	}
}

func TestUpToOfConfigurationsThatMayNotBe(t *testing.T) {
	l := ofThreads(slices.Concat(ints(), []int{0, 1, 2, 3, 4, 5, 6, 7})...)
	for _, f := range noConfs() {
		for _, level := range ints() {
			checkUpTo(t, l, f, level, nil)
		}
	}
}

func TestUpToGoesByThreadsAlone(t *testing.T) {
	f := threads(4, 0, 1, 2, 3, 3, 2, 1, 0)
	for thread := range 8 {
		l := append(others(), everywhere()...)
		for i := range l {
			l[i].Thread = thread
		}
		for _, level := range ints() {
			var want []api.Oper
			if level >= f.Of[thread] {
				want = l
			}
			checkUpTo(t, l, f, level, want)
		}
	}
}

func TestUpToOfManyLists(t *testing.T) {
	t.Parallel()
	r := rand.New(rand.NewSource(16))
	for range 300 {
		l := some(r, r.Intn(80))
		for _, f := range confs() {
			for level := -1; level <= 4; level++ {
				checkUpTo(t, l, f, level, upTo(l, f, level))
			}
		}
	}
}

// 15.3

func TestSharesPutTogether(t *testing.T) {
	t.Parallel()
	r := rand.New(rand.NewSource(17))
	for range 300 {
		l := some(r, r.Intn(120))
		for i := range l {
			// Of levels that there are, so that only what is of no part is in no share.
			l[i].Call.Level = r.Intn(4)
			l[i].From = i
		}
		var together []api.Oper
		for _, opers := range All(l) {
			together = append(together, opers...)
		}
		slices.SortStableFunc(together, func(a, b api.Oper) int { return a.From - b.From })
		want := kept(l, func(o api.Oper) bool { return o.Call.Op >= api.Put && o.Call.Op <= api.Free })
		if !slices.Equal(together, want) {
			t.Fatalf("all shares together are\n%v, not\n%v", together, want)
		}
		apart := kept(l, func(o api.Oper) bool { _, ok := Which(o); return !ok })
		if len(apart)+len(together) != len(l) {
			t.Fatalf("%d are in no share, %d in one, of %d", len(apart), len(together), len(l))
		}
	}
}
