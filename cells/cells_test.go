package cells

import (
	"math"
	"slices"
	"testing"
)

// told is all that a memory tells of itself.
type told struct {
	accesses, writes, last int
	reached, fault         bool
}

// tell asks a memory for all that it tells of itself.
func tell(m *Memory) told {
	last, reached := m.Last()
	return told{m.Accesses(), m.Writes(), last, reached, m.Fault()}
}

// check holds a memory against what it should have and tell. That it is asked must change nothing, so it is asked twice.
func check(t *testing.T, about string, m *Memory, words []uint64, want told) {
	t.Helper()
	for range 2 {
		if got := tell(m); got != want {
			t.Errorf("%s: told %+v, not %+v", about, got, want)
		}
		if got := m.Words(); !slices.Equal(got, words) {
			t.Errorf("%s: words %v, not %v", about, got, words)
		}
	}
}

// values is words at the ends of uint64, and between.
func values() []uint64 {
	return []uint64{0, 1, 2, 7, 1<<32 - 1, 1 << 32, math.MaxInt64, 1 << 63, 1<<63 + 1, math.MaxUint64 - 1, math.MaxUint64}
}

// sizes is how many words memories may have: the ends, those next to them, and between.
func sizes() []int {
	return []int{1, 2, 3, 31, 64, 1672, 4095, 4096}
}

// outside is numbers of words that a memory of so many words hasn't.
func outside(size int) []int {
	return []int{math.MinInt, math.MinInt + 1, -1 << 32, -1<<32 + 1, -4097, -4096, -size - 1, -size, -2, -1, size, size + 1, 2 * size, 1 << 16, 1 << 32, 1<<32 + size - 1, 1 << 60, math.MaxInt - 1, math.MaxInt}
}

// other is a word that w isn't.
func other(w uint64) uint64 {
	return ^w
}

// noughts is so many noughts.
func noughts(size int) []uint64 {
	return make([]uint64, size)
}

// rising is so many words, each of which is another one.
func rising(size int) []uint64 {
	l := make([]uint64, size)
	for a := range l {
		l[a] = uint64(a)*0x9e3779b97f4a7c15 + 11
	}
	return l
}

// changed is words of which one is another one.
func changed(words []uint64, a int, w uint64) []uint64 {
	l := slices.Clone(words)
	l[a] = w
	return l
}

// 6.1

func TestNew(t *testing.T) {
	for _, size := range sizes() {
		m := New(size)
		if m == nil {
			t.Fatalf("%d words: none", size)
		}
		check(t, "new", m, noughts(size), told{})
		for _, a := range []int{0, size / 2, size - 1} {
			if got := m.Load(a); got != 0 {
				t.Errorf("%d words: word %d is %d at first", size, a, got)
			}
		}
	}
}

func TestNewOfNoSuchNumber(t *testing.T) {
	for _, size := range []int{0, 4097, 4098, 8192, 1 << 16, 1 << 32, 1<<32 + 1, 1<<32 + 4096, 1 << 62, math.MaxInt - 1, math.MaxInt, -1, -2, -4096, -4097, -1<<32 + 1, math.MinInt, math.MinInt + 1} {
		if m := New(size); m != nil {
			t.Errorf("%d words: a memory of %d", size, len(m.Words()))
		}
	}
}

func TestOf(t *testing.T) {
	for _, size := range sizes() {
		words := rising(size)
		m := Of(words)
		if m == nil {
			t.Fatalf("%d words: none", size)
		}
		check(t, "of", m, words, told{})
		for _, a := range []int{0, size / 2, size - 1} {
			if got := m.Load(a); got != words[a] {
				t.Errorf("%d words: word %d is %d, not %d", size, a, got, words[a])
			}
		}
	}
	check(t, "of the ends", Of(values()), values(), told{})
}

func TestOfNoSuchNumber(t *testing.T) {
	for _, words := range [][]uint64{nil, {}, rising(4097), noughts(4097), rising(4098), rising(8192), rising(3)[:0]} {
		if m := Of(words); m != nil {
			t.Errorf("%d words: a memory of %d", len(words), len(m.Words()))
		}
	}
}

func TestLoad(t *testing.T) {
	for _, size := range sizes() {
		words := rising(size)
		m := Of(words)
		for n := range 2 {
			for a, want := range words {
				if got := m.Load(a); got != want {
					t.Fatalf("%d words: word %d is %d, not %d", size, a, got, want)
				}
			}
			check(t, "all loaded", m, words, told{accesses: (n + 1) * size, last: size - 1, reached: true})
		}
	}
}

func TestStore(t *testing.T) {
	for _, size := range []int{1, 2, 31, 4096} {
		for _, a := range []int{0, size / 2, size - 1} {
			for _, w := range values() {
				words := rising(size)
				m := Of(words)
				m.Store(a, w)
				check(t, "stored", m, changed(words, a, w), told{1, 1, a, true, false})
				if got := m.Load(a); got != w {
					t.Errorf("%d words: word %d is %d, not %d", size, a, got, w)
				}
			}
		}
	}
}

func TestStoreOfWhatItIs(t *testing.T) {
	m := New(3)
	m.Store(1, 0)
	m.Store(1, 0)
	check(t, "a nought stored twice", m, noughts(3), told{2, 2, 1, true, false})
}

func TestCas(t *testing.T) {
	for _, size := range []int{1, 2, 31, 4096} {
		for _, a := range []int{0, size / 2, size - 1} {
			for _, was := range values() {
				for _, next := range values() {
					words := changed(rising(size), a, was)
					m := Of(words)
					if m.Cas(a, other(was), next) {
						t.Errorf("%d words: word %d, %d, is told to be %d", size, a, was, other(was))
					}
					check(t, "not changed", m, words, told{1, 0, a, true, false})
					if !m.Cas(a, was, next) {
						t.Errorf("%d words: word %d, %d, isn't told to be it", size, a, was)
					}
					check(t, "changed", m, changed(words, a, next), told{2, 1, a, true, false})
				}
			}
		}
	}
}

func TestCasOfEachOld(t *testing.T) {
	for _, was := range values() {
		for _, old := range append(values(), was+1, was-1, was^1<<63, was^1<<31, was&0xffffffff) {
			m := Of([]uint64{5, was, 6})
			want, writes := []uint64{5, was, 6}, 0
			if old == was {
				want, writes = []uint64{5, 77, 6}, 1
			}
			if got := m.Cas(1, old, 77); got != (old == was) {
				t.Errorf("%d, asked for %d: %v", was, old, got)
			}
			check(t, "asked", m, want, told{1, writes, 1, true, false})
		}
	}
}

func TestCasToWhatItIs(t *testing.T) {
	for _, w := range values() {
		m := Of([]uint64{w, 9})
		for n := 1; n <= 3; n++ {
			if !m.Cas(0, w, w) {
				t.Errorf("%d to %d: false", w, w)
			}
			// It told true, so it is a write, though no word is another one.
			check(t, "to what it is", m, []uint64{w, 9}, told{n, n, 0, true, false})
		}
		if m.Cas(0, other(w), other(w)) || m.Cas(0, other(w), w) {
			t.Errorf("%d is told to be %d", w, other(w))
		}
		check(t, "to what it isn't", m, []uint64{w, 9}, told{5, 3, 0, true, false})
	}
}

// access is an access to a word, and whether something is answered of it.
type access struct {
	name string
	do   func(m *Memory, a int) bool
}

// each is each kind of access.
func each() []access {
	return []access{
		{"Load", func(m *Memory, a int) bool { return m.Load(a) != 0 }},
		{"Store", func(m *Memory, a int) bool { m.Store(a, 77); return false }},
		{"Cas from 0", func(m *Memory, a int) bool { return m.Cas(a, 0, 77) }},
		{"Cas from 0 to 0", func(m *Memory, a int) bool { return m.Cas(a, 0, 0) }},
		{"Cas from 7", func(m *Memory, a int) bool { return m.Cas(a, 7, 77) }},
	}
}

func TestOutOfPlace(t *testing.T) {
	for _, size := range sizes() {
		for _, x := range each() {
			for _, a := range outside(size) {
				// All words are 7, so that one that was read in another's place shows.
				words := slices.Repeat([]uint64{7}, size)
				m := Of(words)
				if x.do(m, a) {
					t.Errorf("%d words: %s of word %d told something", size, x.name, a)
				}
				check(t, x.name, m, words, told{accesses: 1, fault: true})
			}
		}
	}
}

func TestOutOfPlaceLiesBehindTheWords(t *testing.T) {
	// The words handed in lie in a greater list: what lies behind them isn't the memory's.
	all := []uint64{1, 2, 3, 4, 5}
	m := Of(all[:2])
	if m.Load(2) != 0 || m.Cas(3, 4, 77) {
		t.Error("what lies behind is told")
	}
	m.Store(4, 77)
	check(t, "behind", m, []uint64{1, 2}, told{accesses: 3, fault: true})
	if !slices.Equal(all, []uint64{1, 2, 3, 4, 5}) {
		t.Errorf("what was handed in became %v", all)
	}
}

// 6.2

func TestBehindAFault(t *testing.T) {
	for _, x := range each() {
		for _, a := range outside(3) {
			m := Of([]uint64{5, 6, 7})
			m.Store(1, 60)
			x.do(m, a)
			// The fault counts as an access alone, and Last is still the one ahead of it.
			check(t, x.name, m, []uint64{5, 60, 7}, told{2, 1, 1, true, true})
			if got := m.Load(2); got != 7 {
				t.Errorf("%s of word %d: word 2 is %d behind it", x.name, a, got)
			}
			check(t, x.name+", Load", m, []uint64{5, 60, 7}, told{3, 1, 2, true, true})
			m.Store(0, 50)
			check(t, x.name+", Store", m, []uint64{50, 60, 7}, told{4, 2, 0, true, true})
			if !m.Cas(1, 60, 61) || m.Cas(2, 60, 61) {
				t.Errorf("%s of word %d: Cas goes wrong behind it", x.name, a)
			}
			check(t, x.name+", Cas", m, []uint64{50, 61, 7}, told{6, 3, 2, true, true})
			x.do(m, a)
			check(t, x.name+", once more", m, []uint64{50, 61, 7}, told{7, 3, 2, true, true})
		}
	}
}

func TestWithoutAnAccess(t *testing.T) {
	m, n := New(3), Of([]uint64{3, 2, 1})
	check(t, "new", m, noughts(3), told{})
	check(t, "of", n, []uint64{3, 2, 1}, told{})
	check(t, "new, cloned", m.Clone(), noughts(3), told{})
	check(t, "of, cloned twice", n.Clone().Clone(), []uint64{3, 2, 1}, told{})
}

func TestCounts(t *testing.T) {
	m := New(4)
	steps := []struct {
		name string
		do   func()
		want told
	}{
		{"load 3", func() { m.Load(3) }, told{1, 0, 3, true, false}},
		{"store 0", func() { m.Store(0, 9) }, told{2, 1, 0, true, false}},
		{"cas 2, true", func() { m.Cas(2, 0, 8) }, told{3, 2, 2, true, false}},
		{"cas 1, false", func() { m.Cas(1, 5, 8) }, told{4, 2, 1, true, false}},
		{"load 0", func() { m.Load(0) }, told{5, 2, 0, true, false}},
		{"cas 2, to what it is", func() { m.Cas(2, 8, 8) }, told{6, 3, 2, true, false}},
		{"store 0, what it is", func() { m.Store(0, 9) }, told{7, 4, 0, true, false}},
		{"words", func() { m.Words() }, told{7, 4, 0, true, false}},
		{"clone", func() { m.Clone() }, told{7, 4, 0, true, false}},
		{"store 4", func() { m.Store(4, 1) }, told{8, 4, 0, true, true}},
		{"load 3", func() { m.Load(3) }, told{9, 4, 3, true, true}},
		{"cas -1", func() { m.Cas(-1, 0, 1) }, told{10, 4, 3, true, true}},
		{"load 1", func() { m.Load(1) }, told{11, 4, 1, true, true}},
	}
	for _, s := range steps {
		s.do()
		if got := tell(m); got != s.want {
			t.Errorf("%s: told %+v, not %+v", s.name, got, s.want)
		}
	}
	check(t, "at the end", m, []uint64{9, 0, 8, 0}, told{11, 4, 1, true, true})
}

func TestLastOfFirstWord(t *testing.T) {
	// Word 0 is told apart from none at all.
	m := New(2)
	if a, ok := m.Last(); a != 0 || ok {
		t.Errorf("at first: %d, %v", a, ok)
	}
	m.Load(5)
	if a, ok := m.Last(); a != 0 || ok {
		t.Errorf("out of place: %d, %v", a, ok)
	}
	m.Load(0)
	if a, ok := m.Last(); a != 0 || !ok {
		t.Errorf("word 0: %d, %v", a, ok)
	}
}

func TestOfKeepsNothingOfItsWords(t *testing.T) {
	words := []uint64{1, 2, 3}
	m := Of(words)
	words[0], words[2] = 77, 78
	check(t, "the list is changed", m, []uint64{1, 2, 3}, told{})
	m.Store(1, 20)
	m.Cas(2, 3, 30)
	if !slices.Equal(words, []uint64{77, 2, 78}) {
		t.Errorf("the list became %v with the memory", words)
	}
	n := Of(words)
	n.Store(0, 1)
	check(t, "another one of the list is changed", m, []uint64{1, 20, 30}, told{2, 2, 2, true, false})
}

func TestWordsAreACopy(t *testing.T) {
	m := Of([]uint64{1, 2, 3})
	first := m.Words()
	first[0], first[2] = 77, 78
	check(t, "what was told is changed", m, []uint64{1, 2, 3}, told{})
	second := m.Words()
	m.Store(1, 20)
	m.Cas(0, 1, 10)
	if !slices.Equal(second, []uint64{1, 2, 3}) {
		t.Errorf("what was told became %v with the memory", second)
	}
	if !slices.Equal(first, []uint64{77, 2, 78}) {
		t.Errorf("what was told became %v", first)
	}
	check(t, "changed", m, []uint64{10, 20, 3}, told{2, 2, 0, true, false})
}

// used is a memory that had accesses of each kind, also out of place.
func used() *Memory {
	m := Of([]uint64{1, 2, 3})
	m.Load(0)
	m.Store(1, 20)
	m.Cas(2, 3, 30)
	m.Cas(0, 9, 9)
	m.Load(3)
	return m
}

func TestCloneIsAsItsMemory(t *testing.T) {
	check(t, "clone", used().Clone(), []uint64{1, 20, 30}, told{5, 2, 0, true, true})
	m := New(2)
	m.Store(1, 4)
	check(t, "clone without a fault", m.Clone(), []uint64{0, 4}, told{1, 1, 1, true, false})
	check(t, "clone of the greatest one", Of(rising(4096)).Clone(), rising(4096), told{})
}

func TestCloneIsChanged(t *testing.T) {
	m := used()
	c := m.Clone()
	c.Store(0, 77)
	c.Cas(2, 30, 78)
	c.Load(1)
	check(t, "the clone", c, []uint64{77, 20, 78}, told{8, 4, 1, true, true})
	check(t, "its first memory", m, []uint64{1, 20, 30}, told{5, 2, 0, true, true})
	n := New(1)
	n.Clone().Load(1)
	n.Clone().Store(0, 1)
	check(t, "of clones at fault, and changed", n, noughts(1), told{})
}

func TestFirstMemoryIsChanged(t *testing.T) {
	m := New(2)
	m.Store(1, 4)
	c := m.Clone()
	m.Store(1, 5)
	m.Cas(0, 0, 6)
	m.Store(2, 7)
	check(t, "the clone", c, []uint64{0, 4}, told{1, 1, 1, true, false})
	check(t, "its first memory", m, []uint64{6, 5}, told{4, 3, 0, true, true})
	d := c.Clone()
	c.Store(0, 8)
	check(t, "the clone's clone", d, []uint64{0, 4}, told{1, 1, 1, true, false})
}

func TestNil(t *testing.T) {
	var m *Memory
	for _, a := range append(outside(4096), 0, 1) {
		if got := m.Load(a); got != 0 {
			t.Errorf("nil: word %d is %d", a, got)
		}
		m.Store(a, 7)
		if m.Cas(a, 0, 7) || m.Cas(a, 0, 0) || m.Cas(a, 7, 0) {
			t.Errorf("nil: word %d is changed", a)
		}
		if got := tell(m); got != (told{}) {
			t.Errorf("nil: told %+v", got)
		}
		if got := m.Words(); len(got) != 0 {
			t.Errorf("nil: words %v", got)
		}
		if got := m.Clone(); got != nil {
			t.Errorf("nil: a clone of %v", got.Words())
		}
	}
}

// 6.3

func TestWhatIsStoredStaysAndNoOtherWordIsChanged(t *testing.T) {
	for _, size := range []int{1, 2, 9, 4096} {
		m, want := Of(rising(size)), rising(size)
		for n, a := range []int{0, size - 1, size / 2, 0, size / 3} {
			w := uint64(n) * 0x0101010101010101
			if n%2 == 0 {
				m.Store(a, w)
			} else if !m.Cas(a, want[a], w) {
				t.Fatalf("%d words: word %d isn't %d", size, a, want[a])
			}
			want[a] = w
			for b := range size {
				if got := m.Load(b); got != want[b] {
					t.Fatalf("%d words: behind a change of word %d word %d is %d, not %d", size, a, b, got, want[b])
				}
			}
		}
	}
}

func TestAgainstAMap(t *testing.T) {
	// Accesses of all kinds, in an order that looks like chance, held against words that stand in a map.
	const size = 7
	m, words, want := New(size), map[int]uint64{}, told{}
	next := uint64(1)
	roll := func(n int) int {
		next = next*6364136223846793005 + 1442695040888963407
		return int(next >> 33 % uint64(n))
	}
	for n := range 20000 {
		a, w, old := roll(size), uint64(roll(4)), uint64(roll(4))
		if n > 10000 {
			a = roll(size+4) - 2
		}
		in := 0 <= a && a < size
		want.accesses++
		want.fault = want.fault || !in
		if in {
			want.last, want.reached = a, true
		}
		switch roll(3) {
		case 0:
			if got := m.Load(a); got != words[a] {
				t.Fatalf("access %d: word %d is %d, not %d", n, a, got, words[a])
			}
		case 1:
			m.Store(a, w)
			if in {
				words[a] = w
				want.writes++
			}
		case 2:
			done := in && words[a] == old
			if got := m.Cas(a, old, w); got != done {
				t.Fatalf("access %d: word %d, %d, asked for %d: %v", n, a, words[a], old, got)
			}
			if done {
				words[a] = w
				want.writes++
			}
		}
		if got := tell(m); got != want {
			t.Fatalf("access %d: told %+v, not %+v", n, got, want)
		}
	}
	for a, got := range m.Words() {
		if got != words[a] {
			t.Errorf("at the end word %d is %d, not %d", a, got, words[a])
		}
	}
}

// Examples

func TestExamples(t *testing.T) {
	m := New(2)
	m.Store(1, 7)
	if !m.Cas(1, 7, 8) {
		t.Error("Cas 1 7 8: false")
	}
	if got := m.Writes(); got != 2 {
		t.Errorf("%d writes", got)
	}
	check(t, "the example", m, []uint64{0, 8}, told{2, 2, 1, true, false})
	n := Of([]uint64{5, 6})
	n.Store(1, 7)
	if !n.Cas(1, 7, 8) || n.Writes() != 2 {
		t.Errorf("of two words: %d writes", n.Writes())
	}
}
