package link

import (
	"math"
	"testing"
)

// What is expected is worked out by shifts and masks of the tests' own, so that a slip in the parts of words shows too.
const (
	slotBits  = uint64(0xff)
	genBits   = uint64(0xffffffff) << 8
	markBits  = uint64(1) << 63
	linkBits  = slotBits | genBits | markBits
	lastCount = uint64(1)<<56 - 1
)

// slots is slots of nodes, and numbers below 0 and beyond 8 bits.
func slots() []int {
	return []int{
		0, 1, 2, 3, 5, 59, 60, 61, 127, 128, 254, 255,
		256, 257, 511, 515, 1 << 16, 1<<32 + 7, math.MaxInt - 255, math.MaxInt,
		-1, -2, -5, -255, -256, -257, -1 << 32, math.MinInt, math.MinInt + 3,
	}
}

// gens is generations, and numbers below 0 and beyond 32 bits.
func gens() []int {
	return []int{
		0, 1, 2, 255, 256, 1<<20 - 1, 1 << 20, 1<<20 + 1, 1<<31 - 1, 1 << 31, 1<<32 - 1,
		1 << 32, 1<<32 + 1, 1 << 40, 1 << 55, 1<<56 + 9, math.MaxInt,
		-1, -2, -256, -1 << 31, -1 << 32, -1<<32 - 1, math.MinInt, math.MinInt + 3,
	}
}

// counts is how often a top was changed, and numbers beyond 56 bits.
func counts() []uint64 {
	return []uint64{
		0, 1, 2, 255, 256, 1<<32 - 1, 1 << 32, lastCount - 1, lastCount,
		1 << 56, 1<<56 + 1, 1<<57 - 1, 1 << 63, math.MaxUint64 - 1, math.MaxUint64,
	}
}

// words is links and tops, and words with bits that no link has.
func words() []uint64 {
	return []uint64{
		0, 1, 259, 261, linkBits, ^linkBits, markBits, markBits | 259, 259 | ^linkBits, 259 | 1<<40, 259 | 1<<62, markBits | 259 | 1<<50,
		slotBits, genBits, lastCount << 8, lastCount<<8 | 5, 1<<63 - 1, math.MaxUint64, math.MaxUint64 - 1, math.MaxUint64 - 255,
		0x0123456789abcdef, 0xfedcba9876543210, 0xa5a5a5a500ff3c01,
	}
}

// wantLink is the link without a mark, straight from the chapter's words.
func wantLink(slot, gen int) Link {
	return Link(uint64(slot)&0xff | uint64(gen)<<8&genBits)
}

// 2.1

func TestMake(t *testing.T) {
	for _, c := range []struct {
		slot, gen int
		want      Link
	}{
		{3, 1, 259}, {0, 0, 0}, {0, 1, 256}, {1, 0, 1}, {60, 1 << 20, 1<<28 | 60},
		{255, 1<<32 - 1, 1<<40 - 1}, {255, 0, 255}, {0, 1<<32 - 1, Link(genBits)},
		// Beyond their bits.
		{256, 0, 0}, {259, 1, 259}, {math.MaxInt, 0, 255}, {0, 1 << 32, 0}, {3, 1<<32 + 1, 259}, {0, math.MaxInt, Link(genBits)},
		{1 << 62, 1 << 55, 0},
		// Below 0.
		{-1, 0, 255}, {-256, 0, 0}, {-253, 1, 259}, {0, -1, Link(genBits)}, {3, -1<<32 + 1, 259}, {-1, -1, 1<<40 - 1}, {math.MinInt, math.MinInt, 0},
	} {
		if got := Make(c.slot, c.gen); got != c.want {
			t.Errorf("Make(%d, %d): %#x, not %#x", c.slot, c.gen, got, c.want)
		}
	}
}

func TestMakeOfAllEdges(t *testing.T) {
	for _, slot := range slots() {
		for _, gen := range gens() {
			if got, want := Make(slot, gen), wantLink(slot, gen); got != want {
				t.Fatalf("Make(%d, %d): %#x, not %#x", slot, gen, got, want)
			}
		}
	}
}

func TestPartsOfALink(t *testing.T) {
	for _, c := range []struct {
		l         Link
		slot, gen int
		marked    bool
	}{
		{0, 0, 0, false}, {259, 3, 1, false}, {1<<63 | 259, 3, 1, true}, {1 << 63, 0, 0, true}, {1<<40 - 1, 255, 1<<32 - 1, false},
		// Bits that no link has belong to no part.
		{1 << 40, 0, 0, false}, {1 << 62, 0, 0, false}, {Link(^linkBits), 0, 0, false}, {Link(^linkBits) | 259, 3, 1, false},
		{math.MaxUint64, 255, 1<<32 - 1, true}, {math.MaxUint64 >> 1, 255, 1<<32 - 1, false},
	} {
		if c.l.Slot() != c.slot || c.l.Gen() != c.gen || c.l.Marked() != c.marked {
			t.Errorf("%#x: %d, %d, %v, not %d, %d, %v", uint64(c.l), c.l.Slot(), c.l.Gen(), c.l.Marked(), c.slot, c.gen, c.marked)
		}
	}
}

func TestPartsOfEachWord(t *testing.T) {
	for _, w := range words() {
		l := Link(w)
		if got, want := l.Slot(), int(w&0xff); got != want {
			t.Errorf("%#x: slot %d, not %d", w, got, want)
		}
		if got, want := l.Gen(), int(w>>8&0xffffffff); got != want {
			t.Errorf("%#x: generation %d, not %d", w, got, want)
		}
		if got, want := l.Marked(), w>>63 == 1; got != want {
			t.Errorf("%#x: marked %v, not %v", w, got, want)
		}
	}
}

func TestEachBitIsOfOnePart(t *testing.T) {
	for bit := range 64 {
		l := Link(1) << bit
		slot, gen, marked := 0, 0, bit == 63
		if bit < 8 {
			slot = 1 << bit
		} else if bit < 40 {
			gen = 1 << (bit - 8)
		}
		if l.Slot() != slot || l.Gen() != gen || l.Marked() != marked {
			t.Errorf("bit %d: %d, %d, %v, not %d, %d, %v", bit, l.Slot(), l.Gen(), l.Marked(), slot, gen, marked)
		}
	}
}

func TestMark(t *testing.T) {
	for _, w := range words() {
		// Mark is the link with its mark, nothing else of it: what else stands in the word stays.
		if got := Link(w).Mark(); got != Link(w|markBits) {
			t.Errorf("%#x, marked: %#x, not %#x", w, got, w|markBits)
		}
		if got := Link(w).Mark().Mark(); got != Link(w|markBits) {
			t.Errorf("%#x, marked twice: %#x, not %#x", w, got, w|markBits)
		}
	}
	if got := Make(3, 1).Mark(); got != 1<<63|259 {
		t.Errorf("Make(3, 1), marked: %#x", got)
	}
}

func TestPlain(t *testing.T) {
	for _, w := range words() {
		if got, want := Link(w).Plain(), Link(w&^markBits&linkBits); got != want {
			t.Errorf("%#x, plain: %#x, not %#x", w, got, want)
		}
	}
	for _, slot := range slots() {
		for _, gen := range gens() {
			if l := Make(slot, gen); l.Plain() != l || l.Mark().Plain() != l {
				t.Fatalf("Make(%d, %d): plain %#x, of the marked one %#x", slot, gen, l.Plain(), l.Mark().Plain())
			}
		}
	}
}

func TestSame(t *testing.T) {
	const odd = Link(1)<<40 | 1<<62
	for _, c := range []struct {
		a, b Link
		want bool
	}{
		{259, 259, true}, {0, 0, true}, {Make(3, 1).Mark(), Make(3, 1), true}, {Make(3, 1), Make(3, 1).Mark(), true}, {Make(3, 1).Mark(), Make(3, 1).Mark(), true},
		{0, 1 << 63, true}, {259, 259 | odd, true}, {259 | odd, 259 | 1<<63, true}, {0, Link(^linkBits), true},
		{Make(3, 1), Make(259, 1<<32+1), true}, {Make(-1, -1), Make(255, 1<<32-1), true},
		{Make(3, 1), Make(4, 1), false}, {Make(3, 1), Make(3, 2), false}, {Make(3, 1), Make(1, 3), false}, {Make(3, 1), 0, false},
		{Make(3, 1).Mark(), Make(3, 2).Mark(), false}, {Make(3, 1).Mark(), Make(4, 1).Mark(), false},
		{Make(0, 1), Make(0, 1<<31+1), false}, {Make(0, 0), Make(128, 0), false}, {259 | odd, 260 | odd, false},
	} {
		if c.a.Same(c.b) != c.want || c.b.Same(c.a) != c.want {
			t.Errorf("%#x, %#x: the same is %v and %v, not %v", uint64(c.a), uint64(c.b), c.a.Same(c.b), c.b.Same(c.a), c.want)
		}
	}
}

func TestSameOfEachTwoWords(t *testing.T) {
	for _, a := range words() {
		for _, b := range words() {
			if got, want := Link(a).Same(Link(b)), (a^b)&(slotBits|genBits) == 0; got != want {
				t.Errorf("%#x, %#x: the same is %v, not %v", a, b, got, want)
			}
		}
		for bit := range 64 {
			if got, want := Link(a).Same(Link(a^1<<bit)), bit >= 40; got != want {
				t.Errorf("%#x, with bit %d turned: the same is %v, not %v", a, bit, got, want)
			}
		}
	}
}

// 2.2

func TestTop(t *testing.T) {
	for _, c := range []struct {
		slot    int
		changes uint64
		want    uint64
	}{
		{0, 0, 0}, {5, 0, 5}, {5, 1, 261}, {0, 1, 256}, {255, lastCount, math.MaxUint64}, {0, lastCount, math.MaxUint64 - 255}, {60, 1 << 55, 1<<63 | 60},
		// Beyond their bits, and below 0.
		{256, 0, 0}, {261, 0, 5}, {math.MaxInt, 0, 255}, {-1, 0, 255}, {-1, 1, 511}, {-256, 1, 256}, {math.MinInt, 0, 0},
		{5, 1 << 56, 5}, {5, 1<<56 + 1, 261}, {0, math.MaxUint64, math.MaxUint64 - 255}, {0, 1 << 63, 0},
	} {
		if got := Top(c.slot, c.changes); got != c.want {
			t.Errorf("Top(%d, %d): %#x, not %#x", c.slot, c.changes, got, c.want)
		}
	}
}

func TestTopOfAllEdges(t *testing.T) {
	for _, slot := range slots() {
		for _, changes := range counts() {
			got := Top(slot, changes)
			if want := uint64(slot)&0xff | changes<<8; got != want {
				t.Fatalf("Top(%d, %d): %#x, not %#x", slot, changes, got, want)
			}
			if got, want := Under(got), int(uint64(slot)&0xff); got != want {
				t.Fatalf("Under of Top(%d, %d): %d, not %d", slot, changes, got, want)
			}
		}
	}
}

func TestUnder(t *testing.T) {
	for _, w := range words() {
		if got, want := Under(w), int(w&0xff); got != want {
			t.Errorf("Under(%#x): %d, not %d", w, got, want)
		}
	}
	for bit := range 64 {
		want := 0
		if bit < 8 {
			want = 1 << bit
		}
		if got := Under(1 << bit); got != want {
			t.Errorf("Under of bit %d: %d, not %d", bit, got, want)
		}
	}
}

func TestChanged(t *testing.T) {
	for _, c := range []struct {
		top  uint64
		slot int
		want uint64
	}{
		{0, 5, 261}, {261, 5, 517}, {261, 0, 512}, {255, 0, 256}, {255, 255, 511}, {Top(7, 1<<32-1), 9, 1<<40 | 9},
		// The last count is followed by 0, and nothing of it reaches the slot.
		{Top(5, lastCount), 6, 6}, {Top(0, lastCount), 0, 0}, {math.MaxUint64, 255, 255}, {math.MaxUint64, 0, 0}, {Top(5, lastCount-1), 6, lastCount<<8 | 6},
		// Slots beyond their bits, and below 0.
		{0, 256, 256}, {0, 261, 261}, {0, math.MaxInt, 511}, {0, -1, 511}, {0, -256, 256}, {0, math.MinInt, 256},
	} {
		if got := Changed(c.top, c.slot); got != c.want {
			t.Errorf("Changed(%#x, %d): %#x, not %#x", c.top, c.slot, got, c.want)
		}
	}
}

func TestChangedOfAllEdges(t *testing.T) {
	for _, top := range words() {
		for _, slot := range slots() {
			if got, want := Changed(top, slot), (top>>8+1)<<8|uint64(slot)&0xff; got != want {
				t.Fatalf("Changed(%#x, %d): %#x, not %#x", top, slot, got, want)
			}
		}
	}
}

// 2.3

func TestAMarkChangesNeitherSlotNorGeneration(t *testing.T) {
	for _, w := range words() {
		l := Link(w)
		m := l.Mark()
		if !m.Marked() || m.Slot() != l.Slot() || m.Gen() != l.Gen() || !m.Same(l) || !l.Same(m) || m.Plain() != l.Plain() {
			t.Errorf("%#x: marked %#x", w, uint64(m))
		}
	}
	for _, slot := range slots() {
		for _, gen := range gens() {
			l := Make(slot, gen)
			m := l.Mark()
			if l.Marked() || !m.Marked() || l == m {
				t.Fatalf("Make(%d, %d): %#x, and marked %#x", slot, gen, uint64(l), uint64(m))
			}
			if m.Slot() != slot&0xff || m.Gen() != gen&0xffffffff || !m.Same(l) {
				t.Fatalf("Make(%d, %d), marked: slot %d, generation %d", slot, gen, m.Slot(), m.Gen())
			}
		}
	}
}

func TestAChangedTopIsAnotherOne(t *testing.T) {
	for _, top := range words() {
		for _, slot := range append(slots(), Under(top)) {
			c := Changed(top, slot)
			if c == top {
				t.Fatalf("Changed(%#x, %d) is what it was", top, slot)
			}
			if Under(c) != slot&0xff {
				t.Fatalf("Changed(%#x, %d) has slot %d", top, slot, Under(c))
			}
		}
	}
}

func TestATopThatIsChangedAndChangedBackIsAnotherOne(t *testing.T) {
	for _, changes := range counts() {
		first := Top(3, changes)
		seen := map[uint64]int{first: 0}
		top := first
		for i := range 1000 {
			top = Changed(top, 3+i%2)
			if at, ok := seen[top]; ok {
				t.Fatalf("from %#x on: the top of change %d comes back at change %d", first, at, i+1)
			}
			seen[top] = i + 1
		}
	}
}

// The chapter's examples.

func TestExamples(t *testing.T) {
	if got := Make(3, 1); got != 259 {
		t.Errorf("Make 3 1: %d", got)
	}
	if got := Changed(0, 5); got != 261 {
		t.Errorf("Changed of 0 to slot 5: %d", got)
	}
}
