package purge

import (
	"math"
	"math/rand"
	"slices"
	"strings"
	"testing"

	"burnbag/api"
)

// checkMade holds a script that is told against the one that it must be, and what was handed in against what it was; what is told must be the caller's own, list by list.
func checkMade(t *testing.T, about string, told func() api.Script, want api.Script, asItWas ...func() bool) {
	t.Helper()
	got := told()
	if !alike(got, want) {
		t.Fatalf("%s: told is\n%v, not\n%v", about, got, want)
	}
	// None of the lists changes when another one does, with all that lies behind it.
	for thread := range got.Programs {
		fill(got.Programs[thread], api.Call{Op: -7})
		got.Programs[thread] = slices.Clone(want.Programs[thread])
		if !alike(got, want) {
			t.Fatalf("%s: when the program of thread %d is another one, it is\n%v, not\n%v", about, thread, got, want)
		}
	}
	got = told()
	fill(got.Entries, api.Entry{Thread: -7})
	got.Entries = slices.Clone(want.Entries)
	if !alike(got, want) {
		t.Fatalf("%s: when the entries are others, it is\n%v, not\n%v", about, got, want)
	}
	for thread := range got.Programs {
		fill(got.Programs[thread], api.Call{Op: -8})
	}
	// Nor does what was handed in, nor what is told later.
	if again := told(); !alike(again, want) {
		t.Fatalf("%s: told later is\n%v, not\n%v", about, again, want)
	}
	for _, is := range asItWas {
		if !is() {
			t.Fatalf("%s: what was handed in isn't as it was", about)
		}
	}
}

// checkKept holds what is told against what it was, when what was handed in is changed.
func checkKept(t *testing.T, about string, told, want api.Script, handed ...api.Script) {
	t.Helper()
	for _, s := range handed {
		for thread := range s.Programs {
			fill(s.Programs[thread], api.Call{Op: -9})
		}
		fill(s.Entries, api.Entry{Thread: 1, What: -9})
	}
	if !alike(told, want) {
		t.Fatalf("%s: when what was handed in is another one, told is\n%v, not\n%v", about, told, want)
	}
}

// checkPurged holds both parts of a script against the model.
func checkPurged(t *testing.T, about string, s api.Script, level int) {
	t.Helper()
	stays, goes := split(s, level)
	handed, asItWas := laidScript(s)
	checkMade(t, about, func() api.Script { return To(handed, level) }, stays, asItWas)
	checkMade(t, about, func() api.Script { return Above(handed, level) }, goes, asItWas)
	low, high := To(handed, level), Above(handed, level)
	checkKept(t, about, low, stays, handed)
	checkKept(t, about, high, goes)
}

// checkEqual holds Equal against what it must tell, both ways round.
func checkEqual(t *testing.T, about string, a, b api.Script, level int, want bool) {
	t.Helper()
	one, asOneWas := laidScript(a)
	other, asOtherWas := laidScript(b)
	if Equal(one, other, level) != want || Equal(other, one, level) != want {
		t.Fatalf("%s: to level %d equal: %v, of\n%v and\n%v", about, level, !want, a, b)
	}
	if !asOneWas() || !asOtherWas() {
		t.Fatalf("%s: what was handed in isn't as it was", about)
	}
}

// checkWoven holds what is woven against the model.
func checkWoven(t *testing.T, about string, low, high api.Script, level int, at []int) {
	t.Helper()
	want := wovenOf(low, high, level, at)
	l, asLowWas := laidScript(low)
	h, asHighWas := laidScript(high)
	whole, numbers := laid(at, -7, 1)
	was := slices.Clone(whole)
	asNumbersWere := func() bool { return slices.Equal(whole, was) }
	checkMade(t, about, func() api.Script { return Weave(l, h, level, numbers) }, want, asLowWas, asHighWas, asNumbersWere)
	woven := Weave(l, h, level, numbers)
	fill(numbers, 2)
	checkKept(t, about, woven, want, l, h)
}

// said is entries as a text: each as the letter of its thread, from a on, and its What.
func said(entries []api.Entry) string {
	var l []string
	for _, e := range entries {
		l = append(l, string(rune('a'+e.Thread))+string(rune('0'+e.What)))
	}
	return strings.Join(l, " ")
}

// read is the entries that a text says.
func read(text string) []api.Entry {
	var l []api.Entry
	for _, word := range strings.Fields(text) {
		l = append(l, api.Entry{Thread: int(word[0]) - 'a', What: int(word[1]) - '0'})
	}
	return l
}

// has tells which threads have programs, by their letters.
func has(s api.Script) string {
	text := ""
	for thread, program := range s.Programs {
		if len(program) > 0 {
			text += string(rune('a' + thread))
		}
	}
	return text
}

func TestExample(t *testing.T) {
	s := api.Script{Conf: threads(2, 0, 1), Entries: read("a0 b0 b0")}
	if got := said(To(s, 0).Entries); got != "a0" {
		t.Errorf("what stays is %s", got)
	}
	if got := said(Above(s, 0).Entries); got != "b0 b0" {
		t.Errorf("what goes is %s", got)
	}
	for _, level := range levels() {
		checkPurged(t, "the example", s, level)
	}
}

// 19.1: To and Above

func TestTo(t *testing.T) {
	// Threads a to e are of the levels 2, 0, 1, 0, 3; f to h aren't there, nor is i, nor are those ahead of a.
	s := api.Script{Conf: threads(4, 2, 0, 1, 0, 3), Entries: read("a0 b1 c2 d3 e0 f1 a2 `3 b0 h1 i2 e3 c9 d7 a0 a0 b1")}
	for thread := range s.Programs {
		s.Programs[thread] = calls(3, thread)
	}
	for _, x := range []struct {
		level                           int
		stays, programs, goes, leavings string
	}{
		{math.MinInt, "f1 `3 h1 i2", "fgh", "a0 b1 c2 d3 e0 a2 b0 e3 c9 d7 a0 a0 b1", "abcde"},
		{-1, "f1 `3 h1 i2", "fgh", "a0 b1 c2 d3 e0 a2 b0 e3 c9 d7 a0 a0 b1", "abcde"},
		{0, "b1 d3 f1 `3 b0 h1 i2 d7 b1", "bdfgh", "a0 c2 e0 a2 e3 c9 a0 a0", "ace"},
		{1, "b1 c2 d3 f1 `3 b0 h1 i2 c9 d7 b1", "bcdfgh", "a0 e0 a2 e3 a0 a0", "ae"},
		{2, "a0 b1 c2 d3 f1 a2 `3 b0 h1 i2 c9 d7 a0 a0 b1", "abcdfgh", "e0 e3", "e"},
		{3, "a0 b1 c2 d3 e0 f1 a2 `3 b0 h1 i2 e3 c9 d7 a0 a0 b1", "abcdefgh", "", ""},
		{4, "a0 b1 c2 d3 e0 f1 a2 `3 b0 h1 i2 e3 c9 d7 a0 a0 b1", "abcdefgh", "", ""},
		{math.MaxInt, "a0 b1 c2 d3 e0 f1 a2 `3 b0 h1 i2 e3 c9 d7 a0 a0 b1", "abcdefgh", "", ""},
	} {
		low, high := To(s, x.level), Above(s, x.level)
		if said(low.Entries) != x.stays || has(low) != x.programs {
			t.Errorf("to level %d: what stays is %s, programs of %s", x.level, said(low.Entries), has(low))
		}
		if said(high.Entries) != x.goes || has(high) != x.leavings {
			t.Errorf("to level %d: what goes is %s, programs of %s", x.level, said(high.Entries), has(high))
		}
		if low.Conf != s.Conf || high.Conf != s.Conf {
			t.Errorf("to level %d: the configurations are %v and %v", x.level, low.Conf, high.Conf)
		}
		for thread := range 8 {
			if both := append(low.Programs[thread], high.Programs[thread]...); !slices.Equal(both, calls(3, thread)) {
				t.Errorf("to level %d: the program of thread %d is %v", x.level, thread, both)
			}
		}
		checkPurged(t, "each level", s, x.level)
	}
}

func TestToOfEachConf(t *testing.T) {
	for _, c := range confs() {
		if !mayConf(c) {
			t.Fatalf("may not be: %v", c)
		}
		for _, level := range levels() {
			checkPurged(t, "each configuration", filled(c), level)
			checkPurged(t, "each configuration, with nothing", api.Script{Conf: c}, level)
		}
	}
}

// Each thread's program and each thread's entry stay, or go, by themselves.
func TestToOfOneThing(t *testing.T) {
	for _, c := range []api.Conf{threads(1, 0), threads(2, 1), threads(4, 3, 0), threads(3, 0, 2, 1, 1), threads(4, 3, 2, 1, 0, 3, 2, 1, 0)} {
		for _, level := range levels() {
			for thread := range 8 {
				s := api.Script{Conf: c}
				s.Programs[thread] = calls(2, thread)
				checkPurged(t, "one program", s, level)
			}
			for _, thread := range append(noThreads(), 0, 1, 2, 3, 4, 5, 6, 7) {
				for _, what := range []int{math.MinInt, -1, 0, 1, 2, 3, 4, math.MaxInt} {
					checkPurged(t, "one entry", api.Script{Conf: c, Entries: []api.Entry{{Thread: thread, What: what}}}, level)
				}
			}
		}
	}
}

// Of a script whose configuration may not be nothing goes.
func TestToOfNoConf(t *testing.T) {
	for _, c := range noConfs() {
		s := filled(c)
		for _, level := range levels() {
			if low := To(s, level); !alike(low, s) {
				t.Errorf("%v, to level %d: what stays is\n%v", c, level, low)
			}
			if high := Above(s, level); !alike(high, api.Script{Conf: c}) {
				t.Errorf("%v, to level %d: what goes is\n%v", c, level, high)
			}
			checkPurged(t, "no configuration", s, level)
		}
	}
}

// Programs and entries that are too long stay, or go, as a whole.
func TestToOfLongLists(t *testing.T) {
	for _, n := range []int{39, 40, 41, 255, 256, 257, 60001} {
		s := api.Script{Conf: threads(4, 2, 0, 1, 0, 3)}
		for _, thread := range []int{0, 1, 4, 7} {
			s.Programs[thread] = calls(n, thread)
		}
		for i := range n {
			s.Entries = append(s.Entries, api.Entry{Thread: 1, What: i}, api.Entry{Thread: 4, What: i})
		}
		for level := -1; level < 4; level++ {
			checkPurged(t, "long lists", s, level)
		}
		other := twin(s)
		other.Programs[7][n-1].Key++
		checkEqual(t, "long lists", s, other, 0, false)
		other = twin(s)
		other.Programs[4][n-1].Key++
		checkEqual(t, "long lists", s, other, 2, true)
		checkEqual(t, "long lists", s, other, 3, false)
	}
}

func TestToOfNilAndEmpty(t *testing.T) {
	s := some()
	for thread := range s.Programs {
		s.Programs[thread] = []api.Call{}
	}
	s.Entries = []api.Entry{}
	other := api.Script{Conf: s.Conf}
	for _, level := range levels() {
		for _, x := range []api.Script{s, other, {}} {
			checkPurged(t, "nothing", x, level)
			for _, part := range []api.Script{To(x, level), Above(x, level)} {
				if has(part) != "" || len(part.Entries) > 0 {
					t.Errorf("to level %d: of nothing comes %v", level, part)
				}
			}
		}
		checkEqual(t, "nothing", s, other, level, true)
		checkWoven(t, "nothing", s, other, level, []int{})
		checkWoven(t, "nothing", other, s, level, nil)
		checkWoven(t, "nothing", api.Script{}, api.Script{}, level, []int{1, 0, 2})
	}
}

// What is told shares no memory also where what is handed in does so.
func TestToOfSharedLists(t *testing.T) {
	for _, level := range levels() {
		s := filled(threads(3, 0, 1, 2, 0, 1))
		one, l := calls(9, 1), s.Entries
		for thread := range s.Programs {
			s.Programs[thread] = one[thread/3 : 6+thread/4]
		}
		want, goes := split(s, level)
		kept, was := slices.Clone(one), slices.Clone(l)
		asItWas := func() bool { return slices.Equal(one, kept) && slices.Equal(l, was) }
		checkMade(t, "shared", func() api.Script { return To(s, level) }, want, asItWas)
		checkMade(t, "shared", func() api.Script { return Above(s, level) }, goes, asItWas)
		high := s
		high.Entries = l[3:20]
		for _, at := range [][]int{nil, {4, 5, 6}, {99}} {
			checkMade(t, "shared", func() api.Script { return Weave(s, high, level, at) }, wovenOf(s, high, level, at), asItWas)
		}
	}
}

// 19.1: Equal

// never is the level from which on a change is told that isn't told at any.
const never = math.MaxInt

// change is something by which a script differs from the one that some is, from a level on.
type change struct {
	about string
	from  int
	spoil func(s *api.Script)
}

// levelOf is the level of a thread of the script that some is; of one that there isn't all levels tell.
func levelOf(thread int) int {
	if thread < 0 || thread >= some().Conf.Threads {
		return math.MinInt
	}
	return some().Conf.Of[thread]
}

// confChanges is changes of the configuration: to one that may be, and to one that may not be.
func confChanges() []change {
	var l []change
	add := func(about string, spoil func(c *api.Conf)) {
		l = append(l, change{about, math.MinInt, func(s *api.Script) { spoil(&s.Conf) }})
	}
	add("three levels", func(c *api.Conf) { c.Levels = 3 })
	add("five levels", func(c *api.Conf) { c.Levels = 5 })
	add("six threads", func(c *api.Conf) { c.Threads = 6 })
	add("eight threads", func(c *api.Conf) { c.Threads = 8 })
	add("nine threads", func(c *api.Conf) { c.Threads = 9 })
	for _, n := range []int{-1, 1} {
		add("slots", func(c *api.Conf) { c.Slots += n })
		add("limbo", func(c *api.Conf) { c.Limbo += n })
		add("generations", func(c *api.Conf) { c.Gens += n })
		add("quota", func(c *api.Conf) { c.Quota += n })
		add("no slots", func(c *api.Conf) { c.Slots *= n * 40 })
		add("no generations", func(c *api.Conf) { c.Gens *= n << 20 })
	}
	for thread := range 8 {
		for level := range 5 {
			if some().Conf.Of[thread] != level {
				add("another level", func(c *api.Conf) { c.Of[thread] = level })
			}
		}
	}
	return l
}

// programChanges is changes of one thread's program.
func programChanges(thread int) []change {
	var l []change
	add := func(about string, spoil func(program []api.Call) []api.Call) {
		l = append(l, change{about, levelOf(thread), func(s *api.Script) { s.Programs[thread] = spoil(s.Programs[thread]) }})
	}
	add("a call more", func(p []api.Call) []api.Call { return append(p, api.Call{}) })
	add("a call more ahead", func(p []api.Call) []api.Call { return append([]api.Call{{Op: 1}}, p...) })
	program := some().Programs[thread]
	if len(program) == 0 {
		return l
	}
	add("no program", func(p []api.Call) []api.Call { return nil })
	add("all but the first call", func(p []api.Call) []api.Call { return p[1:] })
	add("all but the last call", func(p []api.Call) []api.Call { return p[:len(p)-1] })
	add("the other way round", func(p []api.Call) []api.Call { slices.Reverse(p); return p })
	for i := range program {
		for _, spoil := range []func(c *api.Call){
			func(c *api.Call) { c.Op -= 1 },
			func(c *api.Call) { c.Level += 4 },
			func(c *api.Call) { c.Key ^= 1 << 62 },
			func(c *api.Call) { c.Pair.A ^= 1 << 63 },
			func(c *api.Call) { c.Pair.B ^= 1 },
			func(c *api.Call) { c.Handle ^= 1 << 40 },
			func(c *api.Call) { c.Reg += 1 },
		} {
			add("another call", func(p []api.Call) []api.Call { spoil(&p[i]); return p })
		}
	}
	return l
}

// entryChanges is changes of the entry at a place.
func entryChanges(i int) []change {
	var l []change
	add := func(about string, from int, spoil func(s *api.Script)) {
		l = append(l, change{about, from, spoil})
	}
	entry := some().Entries[i]
	level := levelOf(entry.Thread)
	add("another What", level, func(s *api.Script) { s.Entries[i].What++ })
	add("an entry less", level, func(s *api.Script) { s.Entries = slices.Delete(s.Entries, i, i+1) })
	for _, thread := range append(noThreads(), 0, 1, 2, 3, 4, 5, 6, 7) {
		more := api.Entry{Thread: thread, What: 77}
		add("an entry more", levelOf(thread), func(s *api.Script) { s.Entries = slices.Insert(s.Entries, i, more) })
		if thread != entry.Thread {
			add("another thread", min(level, levelOf(thread)), func(s *api.Script) { s.Entries[i].Thread = thread })
		}
	}
	if i > 0 {
		add("with the one ahead changed", max(level, levelOf(some().Entries[i-1].Thread)), func(s *api.Script) {
			s.Entries[i-1], s.Entries[i] = s.Entries[i], s.Entries[i-1]
		})
	}
	return l
}

// changes is all of them.
func changes() []change {
	l := confChanges()
	for thread := range 8 {
		l = append(l, programChanges(thread)...)
	}
	for i := range some().Entries {
		l = append(l, entryChanges(i)...)
	}
	return append(l,
		change{"nothing", never, func(s *api.Script) {}},
		change{"no entries", math.MinInt, func(s *api.Script) { s.Entries = nil }},
		change{"an entry more behind", 2, func(s *api.Script) { s.Entries = append(s.Entries, api.Entry{Thread: 0}) }},
		change{"the programs of level 2 changed", 2, func(s *api.Script) { s.Programs[0], s.Programs[4] = s.Programs[4], s.Programs[0] }},
		change{"the programs of level 0 changed", 0, func(s *api.Script) { s.Programs[1], s.Programs[3] = s.Programs[3], s.Programs[1] }},
		change{"the program of level 1 with nobody", math.MinInt, func(s *api.Script) { s.Programs[2], s.Programs[7] = nil, s.Programs[2] }},
		change{"all of level 2 above nothing", 2, func(s *api.Script) { s.Programs[0], s.Programs[4] = nil, calls(50, 4) }},
	)
}

func TestEqual(t *testing.T) {
	for _, x := range changes() {
		other := twin(some())
		x.spoil(&other)
		for _, level := range levels() {
			checkEqual(t, x.about, some(), other, level, x.from == never || level < x.from)
		}
		// It is the same as itself, at each level.
		for _, level := range levels() {
			checkEqual(t, x.about, other, other, level, true)
		}
	}
}

func TestEqualOfSomeChanges(t *testing.T) {
	r := rand.New(rand.NewSource(1911))
	l := changes()
	equal := 0
	for range 2500 {
		a, b := twin(some()), twin(some())
		one, other := l[r.Intn(len(l))], l[r.Intn(len(l))]
		one.spoil(&a)
		other.spoil(&b)
		for _, level := range levels() {
			x, _ := split(a, level)
			y, _ := split(b, level)
			if alike(x, y) {
				equal++
			}
			checkEqual(t, one.about+", "+other.about, a, b, level, alike(x, y))
		}
	}
	if equal < 2000 {
		t.Errorf("only %d are equal", equal)
	}
}

// Where the configuration may not be, nothing goes, and all is told at each level.
func TestEqualOfNoConf(t *testing.T) {
	for i, c := range noConfs() {
		s := filled(c)
		for j, other := range noConfs() {
			checkEqual(t, "no configurations", s, filled(other), 0, i == j)
		}
		for _, level := range levels() {
			checkEqual(t, "no configuration", s, filled(c), level, true)
			for thread := range 8 {
				other := filled(c)
				other.Programs[thread][0].Key++
				checkEqual(t, "a program", s, other, level, false)
			}
			for _, place := range []int{0, 1, 7, len(s.Entries) - 1} {
				other := filled(c)
				other.Entries[place].What++
				checkEqual(t, "an entry", s, other, level, false)
			}
			checkEqual(t, "one that may be", s, filled(threads(4, 0, 1, 2, 3)), level, false)
		}
	}
}

// 19.2: Weave

func TestWeave(t *testing.T) {
	// Threads a and b are of level 0, c of level 1, d of level 2; e isn't there.
	c := threads(3, 0, 0, 1, 2)
	for _, x := range []struct {
		low, high string
		level     int
		at        []int
		want      string
	}{
		{"", "", 0, nil, ""},
		{"a0", "c5", 0, []int{0}, "c5 a0"},
		{"a0", "c5", 0, []int{1}, "a0 c5"},
		{"a0", "c5", 0, []int{2}, "a0 c5"},
		{"a0", "c5", 0, []int{math.MaxInt}, "a0 c5"},
		{"a0", "c5", 0, []int{-1}, "c5 a0"},
		{"a0", "c5", 0, []int{math.MinInt}, "c5 a0"},
		{"a0", "c5", 0, nil, "c5 a0"},
		{"a0", "c5", 0, []int{}, "c5 a0"},
		{"", "c5 c6", 0, []int{3, 0}, "c5 c6"},
		{"a0 b1", "", 0, []int{1, 2}, "a0 b1"},
		// Numbers that rise, fall, are equal, and are missing.
		{"a0 b1 a2 b3", "c5 d6 c7", 0, []int{1, 2, 3}, "a0 c5 b1 d6 a2 c7 b3"},
		{"a0 b1 a2 b3", "c5 d6 c7", 0, []int{0, 2, 4}, "c5 a0 b1 d6 a2 b3 c7"},
		{"a0 b1 a2 b3", "c5 d6 c7", 0, []int{3, 2, 1}, "a0 b1 a2 c5 d6 c7 b3"},
		{"a0 b1 a2 b3", "c5 d6 c7", 0, []int{3, 1, 2}, "a0 b1 a2 c5 d6 c7 b3"},
		{"a0 b1 a2 b3", "c5 d6 c7", 0, []int{2, 1, 3}, "a0 b1 c5 d6 a2 c7 b3"},
		{"a0 b1 a2 b3", "c5 d6 c7", 0, []int{2, 2, 2}, "a0 b1 c5 d6 c7 a2 b3"},
		{"a0 b1 a2 b3", "c5 d6 c7", 0, []int{2, -1, 3}, "a0 b1 c5 d6 a2 c7 b3"},
		{"a0 b1 a2 b3", "c5 d6 c7", 0, []int{-5, 1, -5}, "c5 a0 d6 c7 b1 a2 b3"},
		{"a0 b1 a2 b3", "c5 d6 c7", 0, []int{1}, "a0 c5 d6 c7 b1 a2 b3"},
		{"a0 b1 a2 b3", "c5 d6 c7", 0, []int{1, 4}, "a0 c5 b1 a2 b3 d6 c7"},
		{"a0 b1 a2 b3", "c5 d6 c7", 0, nil, "c5 d6 c7 a0 b1 a2 b3"},
		// Numbers beyond how many there are, and then others.
		{"a0 b1 a2 b3", "c5 d6 c7", 0, []int{9, 1, 2}, "a0 b1 a2 b3 c5 d6 c7"},
		{"a0 b1 a2 b3", "c5 d6 c7", 0, []int{1, 9, 4}, "a0 c5 b1 a2 b3 d6 c7"},
		{"a0 b1 a2 b3", "c5 d6 c7", 0, []int{1, 5, math.MaxInt}, "a0 c5 b1 a2 b3 d6 c7"},
		// More numbers than entries.
		{"a0 b1 a2 b3", "c5", 0, []int{1, 2, 3, 4, 0}, "a0 c5 b1 a2 b3"},
		{"a0 b1 a2 b3", "", 0, []int{1, 2}, "a0 b1 a2 b3"},
		// Low's that go aren't counted, and high's that stay have no numbers.
		{"c0 a0 c1 d2 b1 d3 a2", "a4 c5 b4 d6 a4 c7", 0, []int{1, 2, 2}, "a0 c5 b1 d6 c7 a2"},
		{"c0 a0 c1 d2 b1 d3 a2", "a4 c5 b4 d6 a4 c7", 1, []int{1, 2, 3}, "c0 d6 a0 c1 b1 a2"},
		{"c0 a0 c1 d2 b1 d3 a2", "a4 d6 c5 b4 d8", 1, []int{3, 4}, "c0 a0 c1 d6 b1 d8 a2"},
		{"c0 a0 c1 d2 b1 d3 a2", "a4 c5 b4 d6 a4 c7", 2, []int{1, 2, 3}, "c0 a0 c1 d2 b1 d3 a2"},
		{"c0 a0 c1 d2 b1 d3 a2", "a4 c5 b4 d6 a4 c7", -1, []int{1, 2, 3}, "a4 c5 b4 d6 a4 c7"},
		// Low's of threads that there aren't stay, and are counted; high's don't come.
		{"e0 a0 `1 c1 h2 a3", "e4 c5 `4 c6 i9 d7", 0, []int{1, 3, 4}, "e0 c5 a0 `1 c6 h2 d7 a3"},
		{"e0 a0 `1 c1 h2 a3", "e4 c5 `4 a6 i9 d7", -1, []int{1, 2, 3}, "e0 c5 `1 a6 h2 d7"},
		// What is the same in both is there as often as it was.
		{"a0 a0 c0 a0", "c0 c0 a0 c0", 0, []int{1, 2, 2}, "a0 c0 a0 c0 c0 a0"},
	} {
		low, high := api.Script{Conf: c, Entries: read(x.low)}, api.Script{Conf: c, Entries: read(x.high)}
		if got := said(Weave(low, high, x.level, x.at).Entries); got != x.want {
			t.Errorf("%s and %s, to level %d, at %v: woven is %s, not %s", x.low, x.high, x.level, x.at, got, x.want)
		}
		checkWoven(t, "the entries", low, high, x.level, x.at)
	}
}

func TestWeaveOfPrograms(t *testing.T) {
	low, high := api.Script{Conf: threads(4, 2, 0, 1, 0, 3)}, api.Script{Conf: threads(4, 2, 0, 1, 0, 3)}
	for thread := range 8 {
		low.Programs[thread], high.Programs[thread] = calls(2, thread), calls(4, 10+thread)
	}
	for _, x := range []struct {
		level int
		highs []int
	}{
		{math.MinInt, []int{0, 1, 2, 3, 4}}, {-1, []int{0, 1, 2, 3, 4}}, {0, []int{0, 2, 4}}, {1, []int{0, 4}}, {2, []int{4}}, {3, nil}, {math.MaxInt, nil},
	} {
		for _, at := range [][]int{nil, {1, 2}} {
			woven := Weave(low, high, x.level, at)
			for thread := range 8 {
				want := calls(2, thread)
				if slices.Contains(x.highs, thread) {
					want = calls(4, 10+thread)
				}
				if !slices.Equal(woven.Programs[thread], want) {
					t.Errorf("to level %d: the program of thread %d is %v", x.level, thread, woven.Programs[thread])
				}
			}
			checkWoven(t, "the programs", low, high, x.level, at)
			checkWoven(t, "none above", low, To(high, x.level), x.level, at)
			checkWoven(t, "none below", Above(low, x.level), high, x.level, at)
			checkWoven(t, "none above of low", To(low, x.level), high, x.level, at)
		}
	}
}

// numbers is all lists of so many numbers out of some.
func numbers(size int, some ...int) [][]int {
	if size == 0 {
		return [][]int{nil}
	}
	var l [][]int
	for _, at := range numbers(size-1, some...) {
		for _, n := range some {
			l = append(l, append(slices.Clone(at), n))
		}
	}
	return l
}

// All few entries are woven at all few numbers.
func TestWeaveOfFew(t *testing.T) {
	c := threads(2, 0, 1)
	for lows := range 4 {
		for highs := range 4 {
			low, high := api.Script{Conf: c}, api.Script{Conf: c}
			for i := range lows {
				low.Entries = append(low.Entries, api.Entry{Thread: 0, What: i})
			}
			for i := range highs {
				high.Entries = append(high.Entries, api.Entry{Thread: 1, What: 10 + i})
			}
			for size := range highs + 2 {
				for _, at := range numbers(size, math.MinInt, -1, 0, 1, 2, 3, 4, math.MaxInt) {
					if got, want := Weave(low, high, 0, at), wovenOf(low, high, 0, at); !alike(got, want) {
						t.Fatalf("%d and %d at %v: woven is %s, not %s", lows, highs, at, said(got.Entries), said(want.Entries))
					}
				}
			}
		}
	}
}

// Of a high with another configuration nothing comes.
func TestWeaveOfAnotherConf(t *testing.T) {
	at := []int{0, 3, 1, 5}
	for _, x := range confChanges() {
		for _, level := range levels() {
			other := twin(some())
			x.spoil(&other)
			if got, want := Weave(some(), other, level, at), To(some(), level); !alike(got, want) {
				t.Errorf("%s, to level %d: woven is\n%v, not\n%v", x.about, level, got, want)
			}
			if got, want := Weave(other, some(), level, at), To(other, level); !alike(got, want) {
				t.Errorf("%s, the other way round, to level %d: woven is\n%v, not\n%v", x.about, level, got, want)
			}
			checkWoven(t, x.about, some(), other, level, at)
			checkWoven(t, x.about, other, some(), level, at)
		}
	}
	for _, c := range noConfs() {
		for _, level := range levels() {
			low, high := filled(c), filled(c)
			high.Entries, high.Programs[1] = high.Entries[3:], calls(7, 7)
			if got := Weave(low, high, level, at); !alike(got, low) {
				t.Errorf("no configuration, to level %d: woven is\n%v, not\n%v", level, got, low)
			}
			checkWoven(t, "no configuration", low, high, level, at)
		}
	}
}

func TestWeaveOfEachConf(t *testing.T) {
	r := rand.New(rand.NewSource(192))
	for _, c := range confs() {
		for _, level := range levels() {
			low, high := anyLists(r, c), filled(c)
			if r.Intn(2) == 0 {
				low, high = high, low
			}
			checkWoven(t, "each configuration", low, high, level, anyNumbers(r, len(high.Entries)))
		}
	}
}

func TestWeaveOfMany(t *testing.T) {
	const many = 200000
	low, high := api.Script{Conf: threads(2, 0, 1)}, api.Script{Conf: threads(2, 0, 1)}
	var at []int
	for i := range many {
		low.Entries = append(low.Entries, api.Entry{Thread: 0, What: i}, api.Entry{Thread: 1, What: -1})
		high.Entries = append(high.Entries, api.Entry{Thread: 1, What: i}, api.Entry{Thread: 0, What: -1})
		at = append(at, i+1)
	}
	woven := Weave(low, high, 0, at)
	if len(woven.Entries) != 2*many {
		t.Fatalf("there are %d", len(woven.Entries))
	}
	for i, e := range woven.Entries {
		if e != (api.Entry{Thread: i % 2, What: i / 2}) {
			t.Fatalf("at place %d: %v", i, e)
		}
	}
	if got := To(woven, 0); len(got.Entries) != many || !Equal(woven, low, 0) || Equal(woven, low, 1) {
		t.Errorf("%d stay", len(got.Entries))
	}
}

// 19.3: what follows

func TestWhatFollowsOfPurging(t *testing.T) {
	r := rand.New(rand.NewSource(1931))
	for range 10000 {
		s, level, other := anyScript(r), anyLevel(r), anyLevel(r)
		checkPurged(t, "any script", s, level)
		low, high := To(s, level), Above(s, level)
		for _, l := range []int{level, max(level, other)} {
			if again := To(low, l); !alike(again, low) || len(Above(low, l).Entries) > 0 || has(Above(low, l)) != "" {
				t.Fatalf("to level %d, and then to %d:\n%v, of\n%v", level, l, again, low)
			}
			checkEqual(t, "what is purged", s, low, min(level, l), true)
		}
		if lower := min(level, other); !alike(To(low, lower), To(s, lower)) || !alike(To(To(s, lower), level), To(s, lower)) {
			t.Fatalf("to level %d, and then to %d, of\n%v", level, lower, s)
		}
		if len(goesFrom(s.Conf, level)) == 0 && !alike(low, s) {
			t.Fatalf("to level %d what stays is\n%v, not\n%v", level, low, s)
		}
		if again := Above(high, level); !alike(again, high) {
			t.Fatalf("above level %d, and once more:\n%v, of\n%v", level, again, high)
		}
		checkAll(t, s, low, high)
	}
}

// checkAll holds what stays and what goes against all that there is: each thing is in just one of both.
func checkAll(t *testing.T, s, low, high api.Script) {
	t.Helper()
	for thread, program := range s.Programs {
		if len(low.Programs[thread]) > 0 && len(high.Programs[thread]) > 0 || !slices.Equal(slices.Concat(low.Programs[thread], high.Programs[thread]), program) {
			t.Fatalf("the program of thread %d is %v and %v, of\n%v", thread, low.Programs[thread], high.Programs[thread], program)
		}
	}
	stays, goes := low.Entries, high.Entries
	for _, e := range s.Entries {
		switch {
		case len(stays) > 0 && stays[0] == e:
			stays = stays[1:]
		case len(goes) > 0 && goes[0] == e:
			goes = goes[1:]
		default:
			t.Fatalf("the entry %v is in neither, of\n%v", e, s)
		}
	}
	if len(stays)+len(goes) > 0 {
		t.Fatalf("more entries are there than were:\n%v and\n%v", low, high)
	}
}

func TestWhatFollowsOfWeaving(t *testing.T) {
	r := rand.New(rand.NewSource(1932))
	for range 10000 {
		low, level := anyScript(r), anyLevel(r)
		high := anyLists(r, low.Conf)
		if r.Intn(8) == 0 {
			high = anyScript(r)
		}
		at := anyNumbers(r, len(high.Entries))
		checkWoven(t, "any scripts", low, high, level, at)
		woven := Weave(low, high, level, at)
		if !alike(To(woven, level), To(low, level)) {
			t.Fatalf("what is woven is\n%v, purged to level %d, and low\n%v", woven, level, low)
		}
		checkEqual(t, "what is woven", woven, low, level, true)
		if low.Conf == high.Conf && !alike(Above(woven, level), Above(high, level)) {
			t.Fatalf("what is woven has\n%v above level %d, and high\n%v", Above(woven, level), level, high)
		}
		if parts := Weave(To(low, level), Above(high, level), level, at); !alike(parts, woven) {
			t.Fatalf("woven of what stays and what goes is\n%v, not\n%v", parts, woven)
		}
		// What stays and what goes, woven as they were, are the script again.
		if again := Weave(low, low, level, aheads(low, level)); !alike(again, low) {
			t.Fatalf("woven as it was is\n%v, not\n%v", again, low)
		}
	}
}
