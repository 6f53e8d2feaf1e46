package means

import (
	"fmt"
	"maps"
	"math"
	"slices"
	"testing"

	"burnbag/api"
)

// way is what a way has, as the chapter tells it.
type way struct {
	full, touched bool
	row           api.Row
}

// model is what a level is meant to be, by plain maps and lists.
type model struct {
	f        api.Conf
	level    int
	sessions map[int64]api.Pair
	ways     [2][4]way
	hands    [2]int
	queue    []api.Pair
	live     map[uint64]api.Pair
	told     map[uint64]int
}

// newModel is a model in which nothing is.
func newModel(f api.Conf, level int) model {
	return model{f: f, level: level, sessions: map[int64]api.Pair{}, live: map[uint64]api.Pair{}, told: map[uint64]int{}}
}

// key tells a model apart from all others of its configuration and level. (Maps are told by their keys, rising.)
func (m model) key() string {
	return fmt.Sprint(m.sessions, m.ways, m.hands, m.queue, m.live, m.told)
}

// above tells whether a thread that there is is above the level.
func (m model) above(thread int) bool {
	return m.f.Of[thread] > m.level
}

// mayBe tells whether a configuration may be.
func mayBe(f api.Conf) bool {
	in := func(n, low, high int) bool { return low <= n && n <= high }
	may := in(f.Levels, 1, 4) && in(f.Threads, 1, 8) && in(f.Slots, 2, 60) && in(f.Limbo, 1, 40) && in(f.Gens, 1, 1<<20) && in(f.Quota, 0, 60)
	for i, level := range f.Of {
		may = may && level >= 0 && (i < f.Threads && level < f.Levels || i >= f.Threads && level == 0)
	}
	return may
}

// refused is the code by which a call is refused, OK if it isn't.
func (m model) refused(thread int, c api.Call) api.Errno {
	if c.Level != m.level || c.Level < 0 || c.Level > 3 || c.Op < 0 || c.Op > 12 || thread < 0 || thread >= m.f.Threads || !mayBe(m.f) {
		return api.ErrBad
	}
	looks := c.Op == api.Get || c.Op == api.Fetch || c.Op == api.Peek || c.Op == api.Read
	if m.f.Of[thread] == m.level || looks && m.above(thread) {
		return api.OK
	}
	return api.ErrPolicy
}

// stores does a Store.
func (m *model) stores(x api.Row) api.Answer {
	which := x.Key & 1
	ways, hand := &m.ways[which], &m.hands[which]
	for i, w := range ways {
		if w.full && w.row.Key == x.Key {
			ways[i] = way{true, true, x}
			return api.Answer{N: 1}
		}
	}
	for i, w := range ways {
		if !w.full {
			ways[i] = way{true, true, x}
			return api.Answer{N: 0}
		}
	}
	for {
		i := *hand
		*hand = (i + 1) % 4
		if ways[i].touched {
			ways[i].touched = false
			continue
		}
		gone := ways[i].row.Key
		ways[i] = way{true, true, x}
		return api.Answer{N: 2, Key: gone}
	}
}

// finds does a Fetch, or a Drop.
func (m *model) finds(thread int, c api.Call) api.Answer {
	for i, w := range m.ways[c.Key&1] {
		if !w.full || w.row.Key != c.Key {
			continue
		}
		if c.Op == api.Drop {
			m.ways[c.Key&1][i] = way{}
		} else if !m.above(thread) {
			m.ways[c.Key&1][i].touched = true
		}
		return api.Answer{Pair: w.row.Pair}
	}
	return api.Answer{Err: api.ErrNone}
}

// does is the model behind a call that isn't refused, and its answer, but for what New and Tend may tell as they like, which is handed in. The model itself stays as it is: maps and lists are cloned ahead of a change.
func (m model) does(thread int, c api.Call, free api.Answer) (model, api.Answer) {
	pair, there := m.sessions[c.Key]
	node, lives := m.live[c.Handle]
	switch {
	case c.Op == api.Put && there:
		return m, api.Answer{Err: api.ErrExists}
	case c.Op == api.Put:
		m.sessions = maps.Clone(m.sessions)
		m.sessions[c.Key] = c.Pair
		return m, api.Answer{}
	case c.Op == api.Get || c.Op == api.Del:
		if !there {
			return m, api.Answer{Err: api.ErrNone}
		}
		if c.Op == api.Del {
			m.sessions = maps.Clone(m.sessions)
			delete(m.sessions, c.Key)
		}
		return m, api.Answer{Pair: pair}
	case c.Op == api.Store:
		return m, m.stores(api.Row{Key: c.Key, Pair: c.Pair})
	case c.Op == api.Fetch || c.Op == api.Drop:
		return m, m.finds(thread, c)
	case c.Op == api.Push:
		m.queue = append(slices.Clone(m.queue), c.Pair)
		return m, api.Answer{}
	case c.Op == api.Pop || c.Op == api.Peek:
		if len(m.queue) == 0 {
			return m, api.Answer{Err: api.ErrNone}
		}
		first := m.queue[0]
		if c.Op == api.Pop {
			m.queue = m.queue[1:]
		}
		return m, api.Answer{Pair: first}
	case c.Op == api.New:
		m.live, m.told = maps.Clone(m.live), maps.Clone(m.told)
		m.live[free.Handle] = c.Pair
		m.told[free.Handle]++
		return m, api.Answer{Handle: free.Handle}
	case c.Op == api.Tend:
		return m, api.Answer{N: free.N}
	case !lives:
		return m, api.Answer{Err: api.ErrStale}
	case c.Op == api.Free:
		m.live = maps.Clone(m.live)
		delete(m.live, c.Handle)
		return m, api.Answer{}
	}
	return m, api.Answer{Pair: node}
}

// least is the handle that Does tells of New.
func (m model) least() uint64 {
	for gen := uint64(0); ; gen++ {
		if h := uint64(m.level)<<60 | gen<<8 | 1; m.told[h] == 0 {
			return h
		}
	}
}

// meant is the model behind a call, and its answer, as Does tells it.
func (m model) meant(thread int, c api.Call) (model, api.Answer) {
	if code := m.refused(thread, c); code != api.OK {
		return m, api.Answer{Err: code}
	}
	return m.does(thread, c, api.Answer{Handle: m.least()})
}

// besides is what an op may be answered without being done, by a thread of the level.
func besides(op int) []api.Errno {
	switch op {
	case api.Put, api.Push:
		return []api.Errno{api.ErrFull}
	case api.Store:
		return []api.Errno{api.ErrFull, api.ErrLimbo}
	case api.Del, api.Drop, api.Pop, api.Free:
		return []api.Errno{api.ErrLimbo}
	case api.New:
		return []api.Errno{api.ErrFull, api.ErrQuota}
	}
	return nil
}

// may tells whether a call may be answered so, and the model behind.
func (m model) may(thread int, c api.Call, a api.Answer) (model, bool) {
	if code := m.refused(thread, c); code != api.OK {
		return m, a == api.Answer{Err: code}
	}
	if slices.Contains(besides(c.Op), a.Err) || a.Err == api.ErrRetry && m.above(thread) {
		return m, a == api.Answer{Err: a.Err}
	}
	h := a.Handle
	if c.Op == api.New && (h&0xff == 0 || h>>40&0xfffff != 0 || h>>60 != uint64(m.level) || m.told[h] != 0) {
		return m, false
	}
	if c.Op == api.Tend && a.N < 0 {
		return m, false
	}
	next, meant := m.does(thread, c, a)
	if a != meant {
		return m, false
	}
	return next, true
}

// cached is what a model's cache has, rising.
func (m model) cached() []api.Row {
	var l []api.Row
	for _, ways := range m.ways {
		for _, w := range ways {
			if w.full {
				l = append(l, w.row)
			}
		}
	}
	slices.SortFunc(l, func(a, b api.Row) int {
		if a.Key < b.Key {
			return -1
		}
		return 1
	})
	return l
}

// rows is a model's sessions, rising.
func (m model) rows() []api.Row {
	var l []api.Row
	for _, key := range slices.Sorted(maps.Keys(m.sessions)) {
		l = append(l, api.Row{Key: key, Pair: m.sessions[key]})
	}
	return l
}

// book keeps the texts of states of one configuration and level, and of which models they are: each model has one text, and each text one model.
type book struct {
	texts, models map[string]string
}

// newBook is a book in which nothing is.
func newBook() *book {
	return &book{texts: map[string]string{}, models: map[string]string{}}
}

// check holds a state against a model, in all that it tells, and tells its text.
func (b *book) check(t *testing.T, about string, s State, m model) string {
	t.Helper()
	if got, want := s.Sessions(), m.rows(); !slices.Equal(got, want) {
		t.Fatalf("%s: sessions are %v, not %v", about, got, want)
	}
	if got, want := s.Cached(), m.cached(); !slices.Equal(got, want) {
		t.Fatalf("%s: the cache has %v, not %v", about, got, want)
	}
	if got := s.Queued(); !slices.Equal(got, m.queue) {
		t.Fatalf("%s: the line is %v, not %v", about, got, m.queue)
	}
	if got, want := s.Raw(), slices.Sorted(maps.Keys(m.live)); !slices.Equal(got, want) {
		t.Fatalf("%s: live are %v, not %v", about, got, want)
	}
	text, key := s.Text(), m.key()
	if was, there := b.texts[key]; there && was != text {
		t.Fatalf("%s: the same is told as\n%s\nand as\n%s", about, was, text)
	}
	if was, there := b.models[text]; there && was != key {
		t.Fatalf("%s: told alike are\n%s\nand\n%s", about, was, key)
	}
	b.texts[key], b.models[text] = text, key
	return text
}

// both is a state, its text, and the model that it is held against.
type both struct {
	s    State
	m    model
	text string
}

// start is a state of New, and its model.
func start(f api.Conf, level int) both {
	s := New(f, level)
	return both{s, newModel(f, level), s.Text()}
}

// does does a call with both, and holds the answers and what is behind against each other, with what Told takes.
func (x both) does(t *testing.T, b *book, thread int, c api.Call) both {
	t.Helper()
	next, a := x.s.Does(thread, c)
	m, want := x.m.meant(thread, c)
	if a != want {
		t.Fatalf("thread %d of %v: %+v: %+v, not %+v, as of\n%s", thread, x.m.f.Of, c, a, want, x.text)
	}
	same, ok := x.s.Told(thread, c, a)
	if !ok {
		t.Fatalf("thread %d of %v: %+v isn't told %+v, as of\n%s", thread, x.m.f.Of, c, a, x.text)
	}
	x.stays(t, c, x.s)
	text := b.check(t, "behind", next, m)
	if same.Text() != text {
		t.Fatalf("thread %d of %v: %+v told %+v, and done, are told apart, as of\n%s", thread, x.m.f.Of, c, a, x.text)
	}
	return both{next, m, text}
}

// told has both be told an answer, and holds whether it may be, and what is behind, against each other.
func (x both) told(t *testing.T, b *book, thread int, c api.Call, a api.Answer) both {
	t.Helper()
	next, ok := x.s.Told(thread, c, a)
	m, want := x.m.may(thread, c, a)
	if ok != want {
		t.Fatalf("thread %d of %v: %+v told %+v: %v, as of\n%s", thread, x.m.f.Of, c, a, ok, x.text)
	}
	if !ok {
		x.stays(t, c, next)
		return x
	}
	x.stays(t, c, x.s)
	return both{next, m, b.check(t, "told", next, m)}
}

// stays holds a state against one that a call left as it was.
func (x both) stays(t *testing.T, by any, s State) {
	t.Helper()
	if text := s.Text(); text != x.text {
		t.Fatalf("%+v changes\n%s\nto\n%s", by, x.text, text)
	}
}

// plain is a configuration of so many levels, with these threads' levels, and all else in its middle.
func plain(levels int, of ...int) api.Conf {
	f := api.Conf{Levels: levels, Threads: len(of), Slots: 9, Limbo: 7, Gens: 1000, Quota: 5}
	copy(f.Of[:], of)
	return f
}

// confs is configurations of one, two and four levels, also with levels that have no thread, and with numbers at their least.
func confs() []api.Conf {
	return []api.Conf{
		plain(1, 0),
		plain(1, 0, 0, 0),
		plain(2, 0, 1),
		plain(2, 1, 0, 1, 0),
		plain(2, 1),
		plain(4, 3, 2, 1, 0),
		plain(4, 0, 1, 2, 3, 3, 2, 1, 0),
		plain(4, 0, 3),
		{Levels: 2, Threads: 2, Of: [8]int{1}, Slots: 2, Limbo: 1, Gens: 1},
		{Levels: 4, Threads: 8, Of: [8]int{3, 3, 2, 2, 1, 1, 0, 0}, Slots: 60, Limbo: 40, Gens: 1 << 20, Quota: 60},
	}
}

// noConfs is configurations that may not be, each by one number alone, but for the last one.
func noConfs() []api.Conf {
	change := func(by func(f *api.Conf)) api.Conf {
		f := plain(3, 0, 1, 2, 2)
		by(&f)
		return f
	}
	return []api.Conf{
		change(func(f *api.Conf) { f.Levels = 2 }),
		change(func(f *api.Conf) { f.Levels = 5 }),
		change(func(f *api.Conf) { f.Levels = math.MinInt }),
		change(func(f *api.Conf) { f.Threads = 9 }),
		change(func(f *api.Conf) { f.Threads = 3 }),
		change(func(f *api.Conf) { f.Threads = math.MaxInt }),
		change(func(f *api.Conf) { f.Of[7] = 1 }),
		change(func(f *api.Conf) { f.Of[0] = -1 }),
		change(func(f *api.Conf) { f.Slots = 1 }),
		change(func(f *api.Conf) { f.Limbo = 0 }),
		change(func(f *api.Conf) { f.Gens = 0 }),
		change(func(f *api.Conf) { f.Quota = -1 }),
		{},
	}
}
