package warden

import (
	"math"
	"testing"

	"burnbag/link"
)

// size is how many levels and slots a warden has.
type size struct{ levels, slots int }

// sizes is sizes of wardens: the ends, those next to them, and between.
func sizes() []size {
	return []size{{1, 1}, {1, 2}, {1, 60}, {2, 1}, {2, 5}, {3, 59}, {4, 1}, {4, 7}, {4, 60}}
}

// odd is a number at an end of int, or one that is another one but for its high bits.
func odd() []int {
	return []int{math.MinInt, math.MinInt + 1, math.MinInt + 3, -1 << 32, -1<<32 + 1, -1<<8 + 1, -256, -61, -60, -5, -4, -2, -1, 61, 63, 64, 65, 255, 256, 257, 259, 1 << 32, 1<<32 + 1, 1<<32 + 3, 1 << 62, math.MaxInt - 1, math.MaxInt}
}

// noLevels is levels that a warden of so many hasn't.
func noLevels(levels int) []int {
	return append(odd(), levels, levels+1, 4, 5)
}

// noSlots is slots that a warden of so many hasn't.
func noSlots(slots int) []int {
	return append(odd(), 0, slots+1, slots+2, 2*slots+1)
}

// ref is what a warden should be: of each place whether it is held, and how often it was dropped.
type ref struct {
	size
	held  [4][61]bool
	gens  [4][61]uint64
	slips int
}

// has tells whether there is such a place.
func (r *ref) has(level, slot int) bool {
	return level >= 0 && level < r.levels && slot >= 1 && slot <= r.slots
}

// take is what Take should do.
func (r *ref) take(level, slot int) bool {
	if !r.has(level, slot) || r.held[level][slot] {
		r.slips++
		return false
	}
	r.held[level][slot] = true
	return true
}

// drop is what Drop should do.
func (r *ref) drop(level, slot int) bool {
	if !r.has(level, slot) || !r.held[level][slot] {
		r.slips++
		return false
	}
	r.held[level][slot] = false
	r.gens[level][slot]++
	return true
}

// word is a link's word, by shifts of its own.
func word(slot int, gen uint64) link.Link {
	return link.Link(uint64(slot)&0xff | gen&0xffffffff<<8)
}

// check holds a warden against what it should tell of all that there is, and of some that there isn't. That it is asked must change nothing, so it is asked twice.
func check(t *testing.T, about string, w *Warden, r *ref) {
	t.Helper()
	for range 2 {
		if got := w.Slips(); got != r.slips {
			t.Fatalf("%s: %d slips, not %d", about, got, r.slips)
		}
		for level := -1; level <= 5; level++ {
			held := 0
			for slot := -1; slot <= 62; slot++ {
				checkPlace(t, about, w, r, level, slot)
				if r.has(level, slot) && r.held[level][slot] {
					held++
				}
			}
			if got := w.Held(level); got != held {
				t.Fatalf("%s: level %d has %d held, not %d", about, level, got, held)
			}
		}
	}
}

// checkPlace holds what a warden tells of one place against what it should.
func checkPlace(t *testing.T, about string, w *Warden, r *ref, level, slot int) {
	t.Helper()
	want, gen, held := link.Link(0), uint64(0), false
	if r.has(level, slot) {
		gen, held = r.gens[level][slot], r.held[level][slot]
		want = word(slot, gen)
	}
	if got := w.Link(level, slot); got != want {
		t.Fatalf("%s: the link of %d %d is %d, not %d", about, level, slot, got, want)
	}
	if got := w.Leads(level, word(slot, gen)); got != held {
		t.Fatalf("%s: the link to %d %d leads there: %v", about, level, slot, got)
	}
	for _, g := range []uint64{gen + 1, gen - 1, gen + 2, gen + 1<<31, gen ^ 1<<8} {
		if w.Leads(level, word(slot, g)) {
			t.Fatalf("%s: a link of generation %d leads to %d %d, of generation %d", about, g, level, slot, gen)
		}
	}
}

// fresh is a warden, and what it should be.
func fresh(t *testing.T, s size) (*Warden, *ref) {
	t.Helper()
	w := New(s.levels, s.slots)
	if w == nil {
		t.Fatalf("%+v: none", s)
	}
	return w, &ref{size: s}
}

// take has a warden, and what it should be, take a slot.
func take(t *testing.T, w *Warden, r *ref, level, slot int) {
	t.Helper()
	if got, want := w.Take(level, slot), r.take(level, slot); got != want {
		t.Fatalf("%+v: Take %d %d: %v", r.size, level, slot, got)
	}
}

// drop has a warden, and what it should be, drop a slot.
func drop(t *testing.T, w *Warden, r *ref, level, slot int) {
	t.Helper()
	if got, want := w.Drop(level, slot), r.drop(level, slot); got != want {
		t.Fatalf("%+v: Drop %d %d: %v", r.size, level, slot, got)
	}
}

// 7.1

func TestNew(t *testing.T) {
	for levels := 1; levels <= 4; levels++ {
		for slots := 1; slots <= 60; slots++ {
			w, r := fresh(t, size{levels, slots})
			check(t, "new", w, r)
		}
	}
}

func TestNewOfNoSuchSize(t *testing.T) {
	for _, n := range append(odd(), 0) {
		for _, ok := range []int{1, 2, 4} {
			if New(n, ok) != nil {
				t.Errorf("%d levels of %d slots: a warden", n, ok)
			}
			if New(ok, n) != nil {
				t.Errorf("%d levels of %d slots: a warden", ok, n)
			}
		}
		if New(n, n) != nil {
			t.Errorf("%d levels of as many slots: a warden", n)
		}
	}
	for _, s := range []size{{5, 1}, {5, 60}, {60, 4}, {5, 5}, {1, 61}, {4, 61}, {0, 1}, {0, 60}, {1, 0}, {4, 0}, {0, 0}} {
		if New(s.levels, s.slots) != nil {
			t.Errorf("%+v: a warden", s)
		}
	}
}

func TestTakeAndDropOfEachSlot(t *testing.T) {
	for _, s := range sizes() {
		w, r := fresh(t, s)
		for range 2 {
			for level := range s.levels {
				for slot := 1; slot <= s.slots; slot++ {
					take(t, w, r, level, slot)
				}
				check(t, "a level is taken", w, r)
			}
			for level := range s.levels {
				for slot := s.slots; slot >= 1; slot-- {
					drop(t, w, r, level, slot)
				}
				check(t, "a level is dropped", w, r)
			}
		}
		if got := w.Slips(); got != 0 {
			t.Errorf("%+v: %d slips", s, got)
		}
	}
}

func TestTakeTwice(t *testing.T) {
	for _, s := range sizes() {
		w, r := fresh(t, s)
		level, slot := s.levels-1, s.slots
		take(t, w, r, level, slot)
		for n := 1; n <= 3; n++ {
			if w.Take(level, slot) {
				t.Errorf("%+v: what is held was taken", s)
			}
			r.slips = n
			check(t, "taken once more", w, r)
		}
		drop(t, w, r, level, slot)
		check(t, "dropped", w, r)
		take(t, w, r, level, slot)
		check(t, "taken behind it", w, r)
	}
}

func TestDropOfWhatIsNotHeld(t *testing.T) {
	for _, s := range sizes() {
		w, r := fresh(t, s)
		level, slot := s.levels-1, s.slots
		for n := 1; n <= 3; n++ {
			if w.Drop(level, slot) {
				t.Errorf("%+v: what isn't held was dropped", s)
			}
			r.slips = n
			check(t, "never taken", w, r)
		}
		take(t, w, r, level, slot)
		drop(t, w, r, level, slot)
		if w.Drop(level, slot) {
			t.Errorf("%+v: dropped twice", s)
		}
		r.slips++
		check(t, "dropped twice", w, r)
	}
}

func TestPlacesThatThereAreNot(t *testing.T) {
	for _, s := range sizes() {
		w, r := fresh(t, s)
		take(t, w, r, 0, 1)
		for _, level := range noLevels(s.levels) {
			for _, slot := range []int{1, s.slots, 0, -1, 61} {
				take(t, w, r, level, slot)
				drop(t, w, r, level, slot)
			}
			if w.Held(level) != 0 || w.Link(level, 1) != 0 || w.Leads(level, word(1, 0)) {
				t.Errorf("%+v: something is told of level %d", s, level)
			}
		}
		for _, slot := range noSlots(s.slots) {
			for level := range s.levels {
				take(t, w, r, level, slot)
				drop(t, w, r, level, slot)
				if got := w.Link(level, slot); got != 0 {
					t.Errorf("%+v: the link of %d %d is %d", s, level, slot, got)
				}
			}
		}
		check(t, "asked for what there isn't", w, r)
		if got := w.Slips(); got == 0 || got != r.slips {
			t.Errorf("%+v: %d slips, not %d", s, got, r.slips)
		}
	}
}

func TestGenerationsGoOn(t *testing.T) {
	for _, s := range []size{{1, 1}, {4, 60}} {
		w, r := fresh(t, s)
		level, slot := s.levels-1, s.slots
		for gen := range 600 {
			if got := w.Link(level, slot); got != word(slot, uint64(gen)) {
				t.Fatalf("%+v: generation %d has the link %d", s, gen, got)
			}
			take(t, w, r, level, slot)
			if got := w.Link(level, slot); got != word(slot, uint64(gen)) {
				t.Fatalf("%+v: generation %d, taken, has the link %d", s, gen, got)
			}
			drop(t, w, r, level, slot)
		}
		check(t, "held 600 times", w, r)
	}
}

// 7.2

func TestLeads(t *testing.T) {
	w, r := fresh(t, size{3, 9})
	for range 3 {
		take(t, w, r, 1, 4)
		drop(t, w, r, 1, 4)
	}
	l := word(4, 3)
	if w.Leads(1, l) {
		t.Error("a link leads to what isn't held")
	}
	take(t, w, r, 1, 4)
	if !w.Leads(1, l) {
		t.Error("a link doesn't lead to what is held")
	}
	// Neither a mark nor bits that no link has make it another slot, or another generation.
	for _, also := range []uint64{1 << 63, 1 << 40, 1 << 62, 0x7fffff << 40, 0xffffff << 40} {
		if !w.Leads(1, l|link.Link(also)) {
			t.Errorf("with bits %x it doesn't lead there", also)
		}
	}
	for bit := range 40 {
		if w.Leads(1, l^1<<bit) {
			t.Errorf("with bit %d turned it leads there", bit)
		}
	}
	for _, level := range append(noLevels(3), 0, 2) {
		if w.Leads(level, l) {
			t.Errorf("it leads to level %d", level)
		}
	}
}

func TestLeadsOfNoSlot(t *testing.T) {
	w, r := fresh(t, size{4, 60})
	for level := range 4 {
		for slot := 1; slot <= 60; slot++ {
			take(t, w, r, level, slot)
		}
	}
	for level := -1; level <= 4; level++ {
		for _, slot := range []int{0, 61, 62, 64, 128, 255} {
			for _, gen := range []uint64{0, 1, math.MaxUint32} {
				if l := word(slot, gen); w.Leads(level, l) || w.Leads(level, l|1<<63) {
					t.Errorf("level %d: %d leads to a slot", level, l)
				}
			}
		}
		if w.Leads(level, math.MaxUint64) || w.Leads(level, 1<<63) {
			t.Errorf("level %d: a word of no slot leads to one", level)
		}
	}
	check(t, "all held", w, r)
}

func TestLinkIsPlain(t *testing.T) {
	w, r := fresh(t, size{1, 5})
	for range 5 {
		take(t, w, r, 0, 2)
		drop(t, w, r, 0, 2)
		take(t, w, r, 0, 2)
		l := w.Link(0, 2)
		if l != l.Plain() || l.Marked() || l.Slot() != 2 || l.Gen() != int(r.gens[0][2]) {
			t.Errorf("the link of generation %d is %d", r.gens[0][2], l)
		}
		drop(t, w, r, 0, 2)
	}
}

func TestHeld(t *testing.T) {
	w, r := fresh(t, size{4, 60})
	for level := range 4 {
		for slot := 1; slot <= 10*(level+1); slot++ {
			take(t, w, r, level, slot)
		}
	}
	drop(t, w, r, 3, 40)
	for level, want := range []int{10, 20, 30, 39} {
		if got := w.Held(level); got != want {
			t.Errorf("level %d has %d held, not %d", level, got, want)
		}
	}
	for _, level := range noLevels(4) {
		if got := w.Held(level); got != 0 {
			t.Errorf("level %d has %d held", level, got)
		}
	}
}

// used is a warden of which slots are held, were dropped, and slipped.
func used(t *testing.T) (*Warden, *ref) {
	w, r := fresh(t, size{2, 3})
	take(t, w, r, 0, 1)
	take(t, w, r, 1, 2)
	drop(t, w, r, 1, 2)
	take(t, w, r, 1, 2)
	drop(t, w, r, 0, 3)
	take(t, w, r, 2, 1)
	return w, r
}

func TestCloneIsAsItsWarden(t *testing.T) {
	w, r := used(t)
	check(t, "clone", w.Clone(), r)
	check(t, "clone's clone", w.Clone().Clone(), r)
	check(t, "its first warden", w, r)
	for _, s := range sizes() {
		w, r := fresh(t, s)
		check(t, "clone of a new one", w.Clone(), r)
		take(t, w.Clone(), r, s.levels-1, s.slots)
		check(t, "of a clone that took", w, &ref{size: s})
	}
}

func TestCloneGoesItsOwnWay(t *testing.T) {
	w, r := used(t)
	c, was := w.Clone(), *r
	mine := was
	drop(t, c, &mine, 0, 1)
	take(t, c, &mine, 0, 2)
	take(t, c, &mine, 1, 3)
	drop(t, c, &mine, 1, 2)
	drop(t, c, &mine, 1, 2)
	check(t, "the clone", c, &mine)
	check(t, "its first warden", w, &was)
	take(t, w, r, 0, 3)
	drop(t, w, r, 0, 1)
	take(t, w, r, 0, 1)
	drop(t, w, r, 0, 1)
	take(t, w, r, 1, 2)
	check(t, "the first warden, behind", w, r)
	check(t, "the clone, behind", c, &mine)
}

func TestNil(t *testing.T) {
	var w *Warden
	for _, level := range append(odd(), 0, 1, 2, 3) {
		for _, slot := range append(odd(), 0, 1, 2, 60) {
			if w.Take(level, slot) || w.Drop(level, slot) {
				t.Errorf("nil: %d %d is taken, or dropped", level, slot)
			}
			if got := w.Link(level, slot); got != 0 {
				t.Errorf("nil: the link of %d %d is %d", level, slot, got)
			}
			if w.Leads(level, word(slot, 0)) || w.Leads(level, 0) {
				t.Errorf("nil: a link leads to %d %d", level, slot)
			}
		}
		if got := w.Held(level); got != 0 {
			t.Errorf("nil: %d held", got)
		}
	}
	if got := w.Slips(); got != 0 {
		t.Errorf("nil: %d slips", got)
	}
	if w.Clone() != nil {
		t.Error("nil: a clone")
	}
}

// 7.3

func TestLinksOfAheadLeadToNothing(t *testing.T) {
	w, r := fresh(t, size{2, 4})
	var ahead []link.Link
	for range 300 {
		take(t, w, r, 1, 3)
		l := w.Link(1, 3)
		if !w.Leads(1, l) || !w.Leads(1, l.Mark()) {
			t.Fatalf("%d doesn't lead to what is held", l)
		}
		for _, old := range ahead {
			if w.Leads(1, old) || w.Leads(1, old.Mark()) {
				t.Fatalf("%d, of ahead, leads to what is held now, of %d", old, l)
			}
		}
		ahead = append(ahead, l)
		drop(t, w, r, 1, 3)
		for _, old := range ahead {
			if w.Leads(1, old) {
				t.Fatalf("%d leads to what was dropped", old)
			}
		}
	}
}

func TestLevelsAreApart(t *testing.T) {
	for level := range 4 {
		w, r := fresh(t, size{4, 6})
		for l := range 4 {
			take(t, w, r, l, 2)
			take(t, w, r, l, 5)
			drop(t, w, r, l, 5)
		}
		was := *r
		take(t, w, r, level, 1)
		drop(t, w, r, level, 2)
		take(t, w, r, level, 5)
		drop(t, w, r, level, 5)
		take(t, w, r, level, 5)
		for l := range 4 {
			if l != level && (w.Held(l) != 1 || r.held[l] != was.held[l] || r.gens[l] != was.gens[l]) {
				t.Errorf("level %d is changed by level %d", l, level)
			}
		}
		check(t, "one level went on", w, r)
	}
}

func TestAgainstAReference(t *testing.T) {
	// Calls in an order that looks like chance, also of places that there aren't.
	for _, s := range []size{{1, 1}, {2, 3}, {4, 60}} {
		w, r := fresh(t, s)
		next := uint64(s.slots)
		roll := func(n int) int {
			next = next*6364136223846793005 + 1442695040888963407
			return int(next >> 33 % uint64(n))
		}
		for n := range 6000 {
			level, slot := roll(s.levels), 1+roll(s.slots)
			if n%7 == 0 {
				level, slot = roll(s.levels+2)-1, roll(s.slots+3)-1
			}
			if roll(2) == 0 {
				take(t, w, r, level, slot)
			} else {
				drop(t, w, r, level, slot)
			}
			if n%5 == 0 {
				w = w.Clone()
			}
			if n%500 == 0 {
				check(t, "on the way", w, r)
			}
		}
		check(t, "at the end", w, r)
	}
}

// Examples

func TestExamples(t *testing.T) {
	w := New(1, 5)
	if !w.Take(0, 3) || !w.Drop(0, 3) {
		t.Error("Take 0 3, Drop 0 3: false")
	}
	if got := w.Link(0, 3); got != 259 {
		t.Errorf("its link is %d", got)
	}
	if got := w.Slips(); got != 0 {
		t.Errorf("%d slips", got)
	}
	if w.Drop(0, 3) || w.Slips() != 1 {
		t.Errorf("dropped once more: %d slips", w.Slips())
	}
}
