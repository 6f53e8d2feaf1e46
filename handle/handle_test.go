package handle

import (
	"math"
	"testing"
)

// What is expected is worked out by shifts and masks of the tests' own, so that a slip in the parts of words shows too.
const (
	handleBits = uint64(0xf)<<60 | uint64(0xffffffffff)
	headBits   = uint64(1)<<34 - 1
	holdBits   = uint64(1)<<63 | 0xff
	entryBits  = uint64(1)<<63 - 1
)

// numbers is levels, slots, generations, states and threads, at the ends of each part's bits, beyond them, and below 0.
func numbers() []int {
	return []int{
		0, 1, 2, 3, 4, 5, 7, 8, 15, 16, 17, 59, 60, 61, 127, 128, 255, 256, 257, 515,
		1 << 20, 1<<20 + 1, 1<<24 - 1, 1 << 24, 1<<24 + 1, 1<<30 - 1, 1 << 30, 1<<31 - 1, 1 << 31, 1<<32 - 1, 1 << 32, 1<<32 + 7,
		1 << 40, 1 << 55, 1<<60 + 3, 1 << 62, math.MaxInt - 255, math.MaxInt,
		-1, -2, -3, -4, -5, -16, -17, -255, -256, -257, -1 << 24, -1<<24 - 1, -1 << 32, -1<<32 + 1, math.MinInt, math.MinInt + 3,
	}
}

// labels is labels and epochs, at the ends of 30 bits, beyond them, and next to 2^64 - 1.
func labels() []uint64 {
	return []uint64{
		0, 1, 2, 3, 4, 5, 1<<30 - 2, 1<<30 - 1, 1 << 30, 1<<30 + 1, 1 << 31, 1<<32 - 1, 1 << 32, 1<<32 + 5, 1<<62 + 1, 1 << 63,
		math.MaxUint64 - 5, math.MaxUint64 - 4, math.MaxUint64 - 3, math.MaxUint64 - 2, math.MaxUint64 - 1, math.MaxUint64,
	}
}

// words is handles, Heads and cells, and words with bits that none of them has.
func words() []uint64 {
	l := []uint64{
		0, 1<<60 + 515, 6, 515, 3<<60 | 1<<40 - 1, handleBits, ^handleBits, headBits, ^headBits, holdBits, ^holdBits, entryBits, ^entryBits,
		1<<60 + 515 | 1<<40, 1<<60 + 515 | 1<<59, 6 | 1<<34, 6 | 1<<62, 1<<63 | 2, 1<<63 | 2 | 1<<8, 1<<63 | 1<<62 | 2,
		1<<62 | 2<<32 | 515, 2<<32 | 515, 1<<62 | 1<<61 | 1<<31 | 255, 1<<62 | 1<<32,
		math.MaxUint64, math.MaxUint64 - 1, math.MaxUint64 - 255, 0x0123456789abcdef, 0xfedcba9876543210, 0xa5a5a5a500ff3c01, 0x35a5a5a500ff3c01,
	}
	for bit := range 64 {
		l = append(l, 1<<bit)
	}
	return l
}

// wantHandle, wantHead, wantHold and wantCell are words straight from the chapter's words.
func wantHandle(level, slot, gen int) uint64 {
	return uint64(slot)&0xff | uint64(gen)&0xffffffff<<8 | uint64(level)<<60
}

func wantHead(gen, state int) uint64 {
	return uint64(state)&3 | uint64(gen)&0xffffffff<<2
}

func wantHold(thread int) uint64 {
	return uint64(thread)&0xff | 1<<63
}

func wantCell(e Entry) uint64 {
	return uint64(e.Slot)&0xff | uint64(e.Gen)&0xffffff<<8 | e.Label&(1<<30-1)<<32 | 1<<62
}

// checkParts holds what Parts tells against what is wanted.
func checkParts(t *testing.T, h uint64, level, slot, gen int, right bool) {
	t.Helper()
	if l, s, g, r := Parts(h); l != level || s != slot || g != gen || r != right {
		t.Errorf("Parts(%#x): %d, %d, %d, %v, not %d, %d, %d, %v", h, l, s, g, r, level, slot, gen, right)
	}
}

// checkState holds what State tells against what is wanted.
func checkState(t *testing.T, w uint64, gen, state int) {
	t.Helper()
	if g, s := State(w); g != gen || s != state {
		t.Errorf("State(%#x): %d, %d, not %d, %d", w, g, s, gen, state)
	}
}

// Words: states and kinds by their numbers.

func TestStatesAndKinds(t *testing.T) {
	for i, got := range []int{Idle, Used, Live, Away} {
		if got != i {
			t.Errorf("state %d is numbered %d", i, got)
		}
	}
	for i, got := range []int{Empty, Reserved, Filled} {
		if got != i {
			t.Errorf("kind %d is numbered %d", i, got)
		}
	}
	// As the chapter has them, they are numbers of no type of their own.
	var _ [4]uint64 = [4]uint64{Idle, Used, Live, Away}
	var _ [3]int8 = [3]int8{Empty, Reserved, Filled}
}

// 3.1

func TestMake(t *testing.T) {
	for _, c := range []struct {
		level, slot, gen int
		want             uint64
	}{
		{1, 3, 2, 1<<60 + 515}, {0, 0, 0, 0}, {0, 1, 0, 1}, {0, 0, 1, 256}, {1, 0, 0, 1 << 60}, {3, 60, 1 << 20, 3<<60 | 1<<28 | 60},
		{15, 255, 1<<32 - 1, handleBits}, {15, 0, 0, 15 << 60}, {0, 255, 0, 255}, {0, 0, 1<<32 - 1, 1<<40 - 256},
		// Beyond their bits.
		{16, 3, 2, 515}, {17, 3, 2, 1<<60 + 515}, {0, 256, 0, 0}, {0, 259, 2, 515}, {0, 3, 1 << 32, 3}, {0, 3, 1<<32 + 2, 515},
		{1 << 62, 1 << 62, 1 << 62, 0}, {math.MaxInt, math.MaxInt, math.MaxInt, handleBits}, {0, 0, 1 << 52, 0}, {0, 1 << 60, 0, 0},
		// Below 0.
		{-1, 0, 0, 15 << 60}, {0, -1, 0, 255}, {0, 0, -1, 1<<40 - 256}, {-1, -1, -1, handleBits}, {-15, -253, -1<<32 + 2, 1<<60 + 515},
		{-16, -256, -1 << 32, 0}, {math.MinInt, math.MinInt, math.MinInt, 0}, {math.MinInt + 1, math.MinInt + 3, math.MinInt + 2, 1<<60 + 515},
	} {
		if got := Make(c.level, c.slot, c.gen); got != c.want {
			t.Errorf("Make(%d, %d, %d): %#x, not %#x", c.level, c.slot, c.gen, got, c.want)
		}
	}
}

func TestMakeOfAllEdges(t *testing.T) {
	for _, level := range numbers() {
		for _, slot := range numbers() {
			for _, gen := range numbers() {
				if got, want := Make(level, slot, gen), wantHandle(level, slot, gen); got != want {
					t.Fatalf("Make(%d, %d, %d): %#x, not %#x", level, slot, gen, got, want)
				}
			}
		}
	}
}

func TestParts(t *testing.T) {
	const h = 1<<60 + 515
	for _, c := range []struct {
		h                uint64
		level, slot, gen int
		right            bool
	}{
		{h, 1, 3, 2, true}, {1, 0, 1, 0, true}, {3<<60 | 1<<28 | 60, 3, 60, 1 << 20, true}, {handleBits, 15, 255, 1<<32 - 1, true}, {128, 0, 128, 0, true},
		// No slot.
		{0, 0, 0, 0, false}, {256, 0, 0, 1, false}, {1 << 60, 1, 0, 0, false}, {handleBits &^ 255, 15, 0, 1<<32 - 1, false},
		// Bits that no handle has belong to no part.
		{h | 1<<40, 1, 3, 2, false}, {h | 1<<59, 1, 3, 2, false}, {h | 1<<50, 1, 3, 2, false}, {^handleBits, 0, 0, 0, false}, {^handleBits | h, 1, 3, 2, false},
		{math.MaxUint64, 15, 255, 1<<32 - 1, false}, {math.MaxUint64 - 255, 15, 0, 1<<32 - 1, false},
	} {
		checkParts(t, c.h, c.level, c.slot, c.gen, c.right)
	}
}

func TestPartsOfEachWord(t *testing.T) {
	for _, w := range words() {
		for bit := range 64 {
			h := w ^ 1<<bit
			checkParts(t, h, int(h>>60), int(h&0xff), int(h>>8&0xffffffff), h&0xff != 0 && h<<4>>44 == 0)
		}
	}
}

func TestHead(t *testing.T) {
	for _, c := range []struct {
		gen, state int
		want       uint64
	}{
		{1, Live, 6}, {0, Idle, 0}, {0, Used, 1}, {0, Live, 2}, {0, Away, 3}, {1, Idle, 4}, {1 << 20, Away, 1<<22 | 3},
		{1<<32 - 1, Away, headBits}, {1<<32 - 1, Idle, headBits - 3},
		// Beyond their bits.
		{1 << 32, Live, 2}, {1<<32 + 1, Live, 6}, {1 << 62, Idle, 0}, {0, 4, 0}, {1, 6, 6}, {0, 1 << 62, 0}, {math.MaxInt, math.MaxInt, headBits},
		// Below 0.
		{-1, Idle, headBits - 3}, {0, -1, 3}, {-1, -1, headBits}, {-1<<32 + 1, -2, 6}, {-1 << 32, -4, 0}, {math.MinInt, math.MinInt, 0},
	} {
		if got := Head(c.gen, c.state); got != c.want {
			t.Errorf("Head(%d, %d): %#x, not %#x", c.gen, c.state, got, c.want)
		}
	}
}

func TestHeadOfAllEdges(t *testing.T) {
	for _, gen := range numbers() {
		for _, state := range numbers() {
			if got, want := Head(gen, state), wantHead(gen, state); got != want {
				t.Fatalf("Head(%d, %d): %#x, not %#x", gen, state, got, want)
			}
		}
	}
}

func TestState(t *testing.T) {
	for _, c := range []struct {
		w          uint64
		gen, state int
	}{
		{6, 1, Live}, {0, 0, Idle}, {1, 0, Used}, {2, 0, Live}, {3, 0, Away}, {4, 1, Idle}, {1<<22 | 3, 1 << 20, Away}, {headBits, 1<<32 - 1, Away},
		// Bits that no Head has belong to no part.
		{6 | 1<<34, 1, Live}, {6 | 1<<63, 1, Live}, {^headBits, 0, Idle}, {^headBits | 6, 1, Live}, {math.MaxUint64, 1<<32 - 1, Away}, {math.MaxUint64 - 3, 1<<32 - 1, Idle},
	} {
		checkState(t, c.w, c.gen, c.state)
	}
}

func TestStateOfEachWord(t *testing.T) {
	for _, w := range words() {
		checkState(t, w, int(w>>2&0xffffffff), int(w&3))
	}
}

// 3.2

func TestHold(t *testing.T) {
	for _, c := range []struct {
		thread int
		want   uint64
	}{
		{0, 1 << 63}, {2, 1<<63 | 2}, {7, 1<<63 | 7}, {255, holdBits},
		{256, 1 << 63}, {258, 1<<63 | 2}, {1 << 62, 1 << 63}, {math.MaxInt, holdBits},
		{-1, holdBits}, {-254, 1<<63 | 2}, {-256, 1 << 63}, {math.MinInt, 1 << 63},
	} {
		if got := Hold(c.thread); got != c.want {
			t.Errorf("Hold(%d): %#x, not %#x", c.thread, got, c.want)
		}
	}
	for _, thread := range numbers() {
		if got, want := Hold(thread), wantHold(thread); got != want {
			t.Errorf("Hold(%d): %#x, not %#x", thread, got, want)
		}
	}
}

func TestCell(t *testing.T) {
	const lastLabel = 1<<30 - 1
	for _, c := range []struct {
		e    Entry
		want uint64
	}{
		{Entry{}, 1 << 62}, {Entry{3, 2, 4}, 1<<62 | 4<<32 | 515}, {Entry{1, 0, 0}, 1<<62 | 1}, {Entry{0, 1, 0}, 1<<62 | 256}, {Entry{0, 0, 1}, 1<<62 | 1<<32},
		{Entry{60, 1 << 20, 2}, 1<<62 | 2<<32 | 1<<28 | 60}, {Entry{255, 1<<24 - 1, lastLabel}, entryBits},
		{Entry{255, 0, 0}, 1<<62 | 255}, {Entry{0, 1<<24 - 1, 0}, 1<<62 | 1<<32 - 256}, {Entry{0, 0, lastLabel}, 1<<63 - 1<<32},
		// Beyond their bits.
		{Entry{256, 1 << 24, 1 << 30}, 1 << 62}, {Entry{259, 1<<24 + 2, 1<<30 + 4}, 1<<62 | 4<<32 | 515},
		{Entry{0, 0, 1 << 31}, 1 << 62}, {Entry{0, 0, 1 << 63}, 1 << 62}, {Entry{0, 1<<32 + 2, 0}, 1<<62 | 512},
		{Entry{math.MaxInt, math.MaxInt, math.MaxUint64}, entryBits}, {Entry{0, 0, math.MaxUint64 - 1}, 1<<62 | (lastLabel-1)<<32},
		// Below 0.
		{Entry{-1, 0, 0}, 1<<62 | 255}, {Entry{0, -1, 0}, 1<<62 | 1<<32 - 256}, {Entry{-253, -1<<24 + 2, 4}, 1<<62 | 4<<32 | 515},
		{Entry{math.MinInt, math.MinInt, 0}, 1 << 62},
	} {
		if got := Cell(c.e); got != c.want {
			t.Errorf("Cell(%v): %#x, not %#x", c.e, got, c.want)
		}
	}
}

func TestCellOfAllEdges(t *testing.T) {
	for _, slot := range numbers() {
		for _, gen := range numbers() {
			for _, label := range labels() {
				e := Entry{Slot: slot, Gen: gen, Label: label}
				if got, want := Cell(e), wantCell(e); got != want {
					t.Fatalf("Cell(%v): %#x, not %#x", e, got, want)
				}
			}
		}
	}
}

func TestKind(t *testing.T) {
	for _, c := range []struct {
		w    uint64
		want int
	}{
		{0, Empty}, {Hold(2), Reserved}, {Hold(0), Reserved}, {Cell(Entry{}), Filled}, {Cell(Entry{3, 2, 4}), Filled},
		{1 << 63, Reserved}, {1<<63 | 1<<62, Reserved}, {1<<63 | 1<<40 | 2, Reserved}, {math.MaxUint64, Reserved},
		// Without bit 62 too it is an entry, if it is neither empty nor reserved.
		{1, Filled}, {255, Filled}, {1 << 32, Filled}, {1 << 61, Filled}, {1 << 62, Filled}, {1<<63 - 1, Filled}, {1<<62 - 1, Filled},
	} {
		if got := Kind(c.w); got != c.want {
			t.Errorf("Kind(%#x): %d, not %d", c.w, got, c.want)
		}
	}
	for bit := range 64 {
		want := Filled
		if bit == 63 {
			want = Reserved
		}
		if got := Kind(1 << bit); got != want {
			t.Errorf("Kind of bit %d: %d, not %d", bit, got, want)
		}
	}
}

func TestWhat(t *testing.T) {
	for _, c := range []struct {
		w    uint64
		want Entry
	}{
		{1<<62 | 4<<32 | 515, Entry{3, 2, 4}}, {1 << 62, Entry{}}, {entryBits, Entry{255, 1<<24 - 1, 1<<30 - 1}},
		// An entry has its parts without bit 62 too.
		{4<<32 | 515, Entry{3, 2, 4}}, {1, Entry{1, 0, 0}}, {1 << 31, Entry{0, 1 << 23, 0}}, {1 << 32, Entry{0, 0, 1}}, {1 << 61, Entry{0, 0, 1 << 29}},
		// What isn't filled tells nothing.
		{0, Entry{}}, {Hold(2), Entry{}}, {Hold(255), Entry{}}, {1<<63 | 1<<62 | 4<<32 | 515, Entry{}}, {1<<63 | 4<<32 | 515, Entry{}}, {math.MaxUint64, Entry{}},
	} {
		if got := What(c.w); got != c.want {
			t.Errorf("What(%#x): %v, not %v", c.w, got, c.want)
		}
	}
}

func TestKindAndWhatOfEachWord(t *testing.T) {
	for _, base := range append(words(), 0, 1) {
		for bit := range 64 {
			w := base ^ 1<<bit
			kind, what := Filled, Entry{Slot: int(w & 0xff), Gen: int(w >> 8 & 0xffffff), Label: w >> 32 & (1<<30 - 1)}
			switch {
			case w == 0:
				kind, what = Empty, Entry{}
			case w>>63 == 1:
				kind, what = Reserved, Entry{}
			}
			if got := Kind(w); got != kind {
				t.Errorf("Kind(%#x): %d, not %d", w, got, kind)
			}
			if got := What(w); got != what {
				t.Errorf("What(%#x): %v, not %v", w, got, what)
			}
		}
	}
}

func TestOld(t *testing.T) {
	const last = math.MaxUint64
	for _, c := range []struct {
		label, epoch uint64
		want         bool
	}{
		{2, 4, true}, {3, 4, false}, {1, 4, true}, {0, 4, true}, {4, 4, false}, {5, 4, false}, {last, 4, false},
		{0, 0, false}, {0, 1, false}, {0, 2, true}, {1, 2, false}, {1, 0, false}, {1, 1, false}, {2, 0, false}, {2, 1, false},
		{0, last, true}, {1<<30 - 1, 1 << 30, false}, {1<<30 - 1, 1<<30 + 1, true}, {1 << 63, 1<<63 + 1, false}, {1 << 63, 1<<63 + 2, true},
		// Next to 2^64 - 1: nothing wraps round.
		{last - 2, last, true}, {last - 3, last, true}, {last - 3, last - 1, true}, {last - 2, last - 1, false}, {last - 1, last, false}, {last, last, false},
		{last - 1, 0, false}, {last - 1, 1, false}, {last, 0, false}, {last, 1, false}, {last, 2, false}, {last - 1, 3, false}, {last - 2, 0, false},
	} {
		if got := Old(c.label, c.epoch); got != c.want {
			t.Errorf("Old(%d, %d): %v, not %v", c.label, c.epoch, got, c.want)
		}
	}
}

func TestOldOfAllEdges(t *testing.T) {
	for _, label := range labels() {
		for _, epoch := range labels() {
			want := label <= math.MaxUint64-2 && label+2 <= epoch
			if got := Old(label, epoch); got != want {
				t.Errorf("Old(%d, %d): %v, not %v", label, epoch, got, want)
			}
		}
	}
}

// 3.3

func TestAHandleHasWhatItWasMadeOf(t *testing.T) {
	for _, level := range numbers() {
		for _, slot := range numbers() {
			for _, gen := range numbers() {
				checkParts(t, Make(level, slot, gen), level&0xf, slot&0xff, gen&0xffffffff, slot&0xff != 0)
			}
		}
	}
}

func TestAHeadHasWhatItWasMadeOf(t *testing.T) {
	for _, gen := range numbers() {
		for _, state := range numbers() {
			checkState(t, Head(gen, state), gen&0xffffffff, state&3)
		}
	}
}

func TestAnEntryHasWhatItWasMadeOf(t *testing.T) {
	for _, slot := range numbers() {
		for _, gen := range numbers() {
			for _, label := range labels() {
				e := Entry{Slot: slot, Gen: gen, Label: label}
				w := Cell(e)
				if kind := Kind(w); kind != Filled {
					t.Fatalf("Cell(%v) is of kind %d", e, kind)
				}
				if got, want := What(w), (Entry{Slot: slot & 0xff, Gen: gen & 0xffffff, Label: label & (1<<30 - 1)}); got != want {
					t.Fatalf("What of Cell(%v): %v, not %v", e, got, want)
				}
			}
		}
	}
}

func TestAReservedCellTellsItsThread(t *testing.T) {
	met := map[uint64]int{}
	for thread := range 256 {
		w := Hold(thread)
		if Kind(w) != Reserved || What(w) != (Entry{}) {
			t.Errorf("Hold(%d): kind %d, %v", thread, Kind(w), What(w))
		}
		if o, ok := met[w]; ok {
			t.Errorf("threads %d and %d reserve alike", o, thread)
		}
		met[w] = thread
	}
	for _, thread := range numbers() {
		if w := Hold(thread); Kind(w) != Reserved || int(w&0xff) != thread&0xff {
			t.Errorf("Hold(%d): kind %d, thread %d", thread, Kind(w), w&0xff)
		}
	}
}

// The chapter's examples.

func TestExamples(t *testing.T) {
	if got := Make(1, 3, 2); got != 1<<60+515 {
		t.Errorf("Make 1 3 2: %d", got)
	}
	if got := Head(1, 2); got != 6 {
		t.Errorf("Head 1 2: %d", got)
	}
}
