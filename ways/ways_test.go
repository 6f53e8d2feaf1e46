package ways

import (
	"math"
	"testing"
)

// room is how many turns a word tells apart.
const room = 1 << 26

// edgeSlots is slots at the ends of their 8 bits and of int, next to them, and between.
func edgeSlots() []int {
	return []int{
		0, 1, 2, 7, 60, 127, 128, 129, 254, 255, 256, 257, 511, 512, -1, -2, -128, -255, -256, -257,
		1 << 32, 1<<32 + 5, -1 << 32, math.MaxInt, math.MaxInt - 1, math.MaxInt - 255, math.MinInt, math.MinInt + 1, math.MinInt + 255,
	}
}

// edgeHands is all ways as hands, and hands that are no ways, up to the ends of int.
func edgeHands() []int {
	return append([]int{0, 1, 2, 3}, noWays()...)
}

// noWays is numbers of ways that there aren't.
func noWays() []int {
	return []int{
		-1, 4, -2, -3, -4, -5, 5, 6, 7, 8, 9, 36, 255, 256, -256, 1 << 32, 1<<32 + 1, -1 << 32, 1<<32 - 1, 1 << 62, 1<<62 + 3,
		math.MaxInt, math.MaxInt - 1, math.MinInt, math.MinInt + 1, math.MinInt + 3,
	}
}

// edgeTurns is counts at the ends of a word's room and of uint64, next to them, and between.
func edgeTurns() []uint64 {
	return []uint64{
		0, 1, 2, 1<<25 - 1, 1 << 25, room - 2, room - 1, room, room + 1, 2*room - 1, 2 * room, 1 << 32, 1<<38 - 1, 1 << 38,
		1 << 63, math.MaxUint64 - room, math.MaxUint64 - 1, math.MaxUint64,
	}
}

// filled is a set of slots, with ways that are touched as the lowest bits of a number tell.
func filled(slots [4]int, touched, hand int, turns uint64) Set {
	s := Set{Hand: hand, Turns: turns}
	for i, slot := range slots {
		s.Ways[i] = Way{Slot: slot, Touched: touched>>i&1 == 1}
	}
	return s
}

// bases is sets on which single fields are changed: the empty one, ordinary ones, full ones, and one of nothing but ones.
func bases() []Set {
	return []Set{
		{},
		{Ways: [4]Way{{7, true}}, Turns: 1},
		{Ways: [4]Way{{}, {9, false}, {}, {3, true}}, Hand: 2, Turns: 40},
		filled([4]int{0, 0, 0, 0}, 15, 0, 6),
		filled([4]int{1, 2, 3, 4}, 0, 0, 4),
		filled([4]int{60, 59, 58, 57}, 15, 3, 70),
		filled([4]int{5, 6, 7, 8}, 6, 1, 1000),
		filled([4]int{170, 85, 170, 85}, 5, 2, room/3),
		filled([4]int{255, 255, 255, 255}, 15, 3, room-1),
	}
}

// edges is sets of which one field each is at an edge, and sets of which all are.
func edges() []Set {
	sets := bases()
	for _, base := range bases() {
		for i := range 4 {
			for _, slot := range edgeSlots() {
				for _, touched := range []bool{false, true} {
					s := base
					s.Ways[i] = Way{Slot: slot, Touched: touched}
					sets = append(sets, s)
				}
			}
		}
		for _, hand := range edgeHands() {
			s := base
			s.Hand = hand
			sets = append(sets, s)
		}
		for _, turns := range edgeTurns() {
			s := base
			s.Turns = turns
			sets = append(sets, s)
		}
	}
	all := edgeSlots()
	for n, slot := range all {
		slots := [4]int{slot, all[(n+3)%len(all)], all[(n+11)%len(all)], all[(n+17)%len(all)]}
		hand, turns := edgeHands()[n%len(edgeHands())], edgeTurns()[n%len(edgeTurns())]
		sets = append(sets, filled(slots, n, hand, turns))
	}
	return sets
}

// lots is sets of few slots, empty ways among them, at all places, with all ways touched or not, from each hand and from hands that are no ways.
func lots() []Set {
	var sets []Set
	few := []int{0, 5, 256, -1}
	for which := range 4 * 4 * 4 * 4 {
		slots := [4]int{few[which&3], few[which>>2&3], few[which>>4&3], few[which>>6&3]}
		for touched := range 16 {
			for _, hand := range []int{0, 1, 2, 3, 4, -1, math.MinInt, math.MaxInt} {
				sets = append(sets, filled(slots, touched, hand, edgeTurns()[(which+touched)%len(edgeTurns())]))
			}
		}
	}
	return sets
}

// modulo is what is left of a number, from 0 on.
func modulo(n, m int) uint64 {
	return uint64((n%m + m) % m)
}

// wantWord is a set's word, as a sum.
func wantWord(s Set) uint64 {
	w := s.Turns%room<<38 + modulo(s.Hand, 4)<<36
	for i, way := range s.Ways {
		w += modulo(way.Slot, 256) << (9 * i)
		if way.Touched {
			w += 1 << (9*i + 8)
		}
	}
	return w
}

// wantRead is the set with a word, bit by bit.
func wantRead(w uint64) Set {
	var s Set
	for bit := range 64 {
		switch {
		case w>>bit&1 == 0:
		case bit < 36 && bit%9 == 8:
			s.Ways[bit/9].Touched = true
		case bit < 36:
			s.Ways[bit/9].Slot += 1 << (bit % 9)
		case bit < 38:
			s.Hand += 1 << (bit - 36)
		default:
			s.Turns += 1 << (bit - 38)
		}
	}
	return s
}

// somewhere is numbers that go all over uint64, always the same ones.
func somewhere(n int) []uint64 {
	var l []uint64
	x := uint64(88172645463325252)
	for range n {
		x ^= x << 13
		x ^= x >> 7
		x ^= x << 17
		l = append(l, x)
	}
	return l
}

// words is words of no bit, of one and of two, of all and of all but one, and of many.
func words() []uint64 {
	l := []uint64{0, math.MaxUint64}
	for a := range 64 {
		l = append(l, 1<<a, ^uint64(1<<a), 1<<a-1)
		for b := range a {
			l = append(l, 1<<a|1<<b)
		}
	}
	return append(l, somewhere(5000)...)
}

func TestWordByHand(t *testing.T) {
	for _, c := range []struct {
		s    Set
		want uint64
	}{
		{Set{}, 0},
		{Set{Ways: [4]Way{{7, true}}, Turns: 1}, 274877907207},
		{Set{Ways: [4]Way{{1, false}}}, 1},
		{Set{Ways: [4]Way{{0, true}}}, 1 << 8},
		{Set{Ways: [4]Way{{}, {1, false}}}, 1 << 9},
		{Set{Ways: [4]Way{{}, {0, true}}}, 1 << 17},
		{Set{Ways: [4]Way{{}, {}, {1, false}}}, 1 << 18},
		{Set{Ways: [4]Way{{}, {}, {0, true}}}, 1 << 26},
		{Set{Ways: [4]Way{{}, {}, {}, {1, false}}}, 1 << 27},
		{Set{Ways: [4]Way{{}, {}, {}, {0, true}}}, 1 << 35},
		{Set{Hand: 1}, 1 << 36},
		{Set{Hand: 2}, 1 << 37},
		{Set{Hand: 3}, 3 << 36},
		{Set{Hand: 4}, 0},
		{Set{Hand: 5}, 1 << 36},
		{Set{Hand: -1}, 3 << 36},
		{Set{Hand: -2}, 2 << 36},
		{Set{Hand: math.MinInt}, 0},
		{Set{Hand: math.MaxInt}, 3 << 36},
		{Set{Turns: 1}, 1 << 38},
		{Set{Turns: room - 1}, math.MaxUint64 - (1<<38 - 1)},
		{Set{Turns: room}, 0},
		{Set{Turns: room + 1}, 1 << 38},
		{Set{Turns: math.MaxUint64}, math.MaxUint64 - (1<<38 - 1)},
		{Set{Ways: [4]Way{{255, false}}}, 255},
		{Set{Ways: [4]Way{{256, false}}}, 0},
		{Set{Ways: [4]Way{{257, false}}}, 1},
		{Set{Ways: [4]Way{{-1, false}}}, 255},
		{Set{Ways: [4]Way{{math.MinInt, false}}}, 0},
		{Set{Ways: [4]Way{{math.MaxInt, false}}}, 255},
		{Set{Ways: [4]Way{{}, {256, true}}}, 1 << 17},
		{Set{Ways: [4]Way{{}, {}, {-1, true}}}, 511 << 18},
		{Set{Ways: [4]Way{{}, {}, {}, {-256, false}}}, 0},
		{filled([4]int{1, 2, 3, 4}, 0, 0, 0), 1 | 2<<9 | 3<<18 | 4<<27},
		{filled([4]int{1, 2, 3, 4}, 10, 2, 9), 1 | 258<<9 | 3<<18 | 260<<27 | 2<<36 | 9<<38},
		{filled([4]int{255, 255, 255, 255}, 15, 3, room-1), math.MaxUint64},
		{filled([4]int{-1, -1, -1, -1}, 15, -1, math.MaxUint64), math.MaxUint64},
		{filled([4]int{256, 256, 256, 256}, 0, 4, room), 0},
	} {
		if got := Word(c.s); got != c.want {
			t.Errorf("the word of %+v: %#x, not %#x", c.s, got, c.want)
		}
	}
}

func TestWord(t *testing.T) {
	for _, s := range append(edges(), lots()...) {
		if got, want := Word(s), wantWord(s); got != want {
			t.Fatalf("the word of %+v: %#x, not %#x", s, got, want)
		}
	}
}

func TestReadByHand(t *testing.T) {
	for _, c := range []struct {
		w    uint64
		want Set
	}{
		{0, Set{}},
		{274877907207, Set{Ways: [4]Way{{7, true}}, Turns: 1}},
		{math.MaxUint64, filled([4]int{255, 255, 255, 255}, 15, 3, room-1)},
		{255, Set{Ways: [4]Way{{255, false}}}},
		{256, Set{Ways: [4]Way{{0, true}}}},
		{512, Set{Ways: [4]Way{{}, {1, false}}}},
		{511 << 27, Set{Ways: [4]Way{{}, {}, {}, {255, true}}}},
		{3 << 36, Set{Hand: 3}},
		{1 << 37, Set{Hand: 2}},
		{1 << 38, Set{Turns: 1}},
		{1 << 63, Set{Turns: 1 << 25}},
		{1 | 258<<9 | 3<<18 | 260<<27 | 2<<36 | 9<<38, filled([4]int{1, 2, 3, 4}, 10, 2, 9)},
	} {
		if got := Read(c.w); got != c.want {
			t.Errorf("%#x: %+v, not %+v", c.w, got, c.want)
		}
	}
}

func TestReadOfOneBit(t *testing.T) {
	for i := range 4 {
		for bit := range 8 {
			var want Set
			want.Ways[i].Slot = 1 << bit
			if got := Read(1 << (9*i + bit)); got != want {
				t.Errorf("bit %d of way %d's slot: %+v", bit, i, got)
			}
		}
		var want Set
		want.Ways[i].Touched = true
		if got := Read(1 << (9*i + 8)); got != want {
			t.Errorf("way %d is touched: %+v", i, got)
		}
	}
	for bit := range 2 {
		if got := Read(1 << (36 + bit)); got != (Set{Hand: 1 << bit}) {
			t.Errorf("bit %d of the hand: %+v", bit, got)
		}
	}
	for bit := range 26 {
		if got := Read(1 << (38 + bit)); got != (Set{Turns: 1 << bit}) {
			t.Errorf("bit %d of the turns: %+v", bit, got)
		}
	}
}

func TestRead(t *testing.T) {
	for _, w := range words() {
		got := Read(w)
		if want := wantRead(w); got != want {
			t.Fatalf("%#x: %+v, not %+v", w, got, want)
		}
		if again := Word(got); again != w {
			t.Fatalf("%#x is read, and written as %#x", w, again)
		}
	}
}

// cut is a set of which each field has the lowest bits alone, as many as there are in a word.
func cut(s Set) Set {
	for i, way := range s.Ways {
		s.Ways[i].Slot = int(modulo(way.Slot, 256))
	}
	s.Hand = int(modulo(s.Hand, 4))
	s.Turns %= room
	return s
}

func TestWhatIsWrittenIsRead(t *testing.T) {
	for _, s := range append(edges(), lots()...) {
		if got, want := Read(Word(s)), cut(s); got != want {
			t.Fatalf("%+v is written, and read as %+v, not %+v", s, got, want)
		}
	}
	for slot := range 256 {
		for i := range 4 {
			s := Set{Hand: i, Turns: uint64(slot) << 18}
			s.Ways[i] = Way{Slot: slot, Touched: slot%2 == 0}
			if got := Read(Word(s)); got != s {
				t.Fatalf("%+v is written, and read as %+v", s, got)
			}
		}
	}
}

// turned is a set that was changed once more, and has a way in the place of one.
func turned(s Set, i int, way Way) Set {
	out := Set{Hand: s.Hand, Turns: s.Turns + 1}
	for j := range 4 {
		if j == i {
			out.Ways[j] = way
		} else {
			out.Ways[j] = s.Ways[j]
		}
	}
	return out
}

func TestTouch(t *testing.T) {
	for _, s := range append(edges(), lots()...) {
		for i := range 4 {
			if got, want := Touch(s, i), turned(s, i, Way{s.Ways[i].Slot, true}); got != want {
				t.Fatalf("touch %d of %+v: %+v, not %+v", i, s, got, want)
			}
		}
	}
}

func TestSwap(t *testing.T) {
	for _, s := range edges() {
		for i := range 4 {
			for _, slot := range append(edgeSlots(), s.Ways[i].Slot) {
				if got, want := Swap(s, i, slot), turned(s, i, Way{slot, true}); got != want {
					t.Fatalf("swap %d for %d of %+v: %+v, not %+v", i, slot, s, got, want)
				}
			}
		}
	}
	for _, s := range lots() {
		for i := range 4 {
			if got, want := Swap(s, i, 99), turned(s, i, Way{99, true}); got != want {
				t.Fatalf("swap %d of %+v: %+v, not %+v", i, s, got, want)
			}
		}
	}
}

func TestClear(t *testing.T) {
	for _, s := range append(edges(), lots()...) {
		for i := range 4 {
			if got, want := Clear(s, i), turned(s, i, Way{0, false}); got != want {
				t.Fatalf("clear %d of %+v: %+v, not %+v", i, s, got, want)
			}
		}
	}
}

func TestAWayThatThereIsNot(t *testing.T) {
	for _, s := range edges() {
		for _, i := range noWays() {
			if got := Touch(s, i); got != s {
				t.Fatalf("touch %d of %+v: %+v", i, s, got)
			}
			for _, slot := range []int{0, 1, -1, 256} {
				if got := Swap(s, i, slot); got != s {
					t.Fatalf("swap %d for %d of %+v: %+v", i, slot, s, got)
				}
			}
			if got := Clear(s, i); got != s {
				t.Fatalf("clear %d of %+v: %+v", i, s, got)
			}
		}
	}
}

func TestTurnsOfEach(t *testing.T) {
	for _, c := range []struct{ was, want uint64 }{
		{0, 1}, {1, 2}, {room - 2, room - 1}, {room - 1, room}, {room, room + 1}, {math.MaxUint64 - 1, math.MaxUint64}, {math.MaxUint64, 0},
	} {
		for _, touched := range []int{0, 5, 15} {
			full, empty := filled([4]int{4, 3, 2, 1}, touched, 2, c.was), filled([4]int{4, 0, 2, 0}, touched, 2, c.was)
			for _, s := range []Set{full, empty} {
				put, _, _ := Put(s, 9)
				for name, got := range map[string]Set{"touch": Touch(s, 1), "swap": Swap(s, 1, 9), "clear": Clear(s, 1), "put": put} {
					if got.Turns != c.want {
						t.Errorf("%s of %+v: %d turns, not %d", name, s, got.Turns, c.want)
					}
				}
				for name, got := range map[string]Set{"touch": Touch(s, 4), "swap": Swap(s, -1, 9), "clear": Clear(s, 4)} {
					if got.Turns != c.was {
						t.Errorf("%s of %+v, where there is no way: %d turns", name, s, got.Turns)
					}
				}
			}
		}
	}
}

// wantPut is what Put should answer, by how far each way is from the hand: those nearer than the nearest one that isn't touched are passed over, all but the hand's if there is none.
func wantPut(s Set, slot int) (Set, int, int) {
	for i := range 4 {
		if s.Ways[i].Slot == 0 {
			return turned(s, i, Way{slot, true}), i, 0
		}
	}
	hand := s.Hand
	if hand < 0 || hand > 3 {
		hand = 0
	}
	nearest, passed := 0, 4
	for far := 3; far >= 0; far-- {
		if !s.Ways[(hand+far)%4].Touched {
			nearest, passed = far, far
		}
	}
	for far := range passed {
		s.Ways[(hand+far)%4].Touched = false
	}
	i := (hand + nearest) % 4
	was := s.Ways[i].Slot
	s.Hand = (i + 1) % 4
	return turned(s, i, Way{slot, true}), i, was
}

// checkPut holds Put against what it should answer.
func checkPut(t *testing.T, s Set, slot int) {
	t.Helper()
	got, i, was := Put(s, slot)
	want, at, gone := wantPut(s, slot)
	if got != want || i != at || was != gone {
		t.Fatalf("put %d into %+v: %+v, way %d, %d given up, not %+v, %d, %d", slot, s, got, i, was, want, at, gone)
	}
}

func TestPut(t *testing.T) {
	for _, s := range edges() {
		for _, slot := range edgeSlots() {
			checkPut(t, s, slot)
		}
	}
	for _, s := range lots() {
		checkPut(t, s, 99)
		checkPut(t, s, 0)
	}
}

func TestPutIntoAnEmptyWay(t *testing.T) {
	for which := 1; which < 16; which++ {
		first := 0
		for which>>first&1 == 0 {
			first++
		}
		for touched := range 16 {
			for _, hand := range edgeHands() {
				s := filled([4]int{11, 22, 33, 44}, touched, hand, 17)
				for i := range 4 {
					if which>>i&1 == 1 {
						s.Ways[i].Slot = 0
					}
				}
				got, i, was := Put(s, 5)
				if i != first || was != 0 || got != turned(s, first, Way{5, true}) {
					t.Fatalf("put into %+v: %+v, way %d, %d given up, not way %d", s, got, i, was, first)
				}
			}
		}
	}
}

func TestPutWhereNoneIsEmpty(t *testing.T) {
	slots := [4]int{11, 22, 33, 44}
	for touched := range 16 {
		for _, hand := range edgeHands() {
			checkPut(t, filled(slots, touched, hand, 3), 5)
		}
	}
	// In each text a way that is touched is a t, and one that isn't is a dot.
	for _, c := range []struct {
		was   string
		hand  int
		gone  int
		after string
		next  int
	}{
		{"....", 0, 0, "t...", 1},
		{"....", 1, 1, ".t..", 2},
		{"....", 2, 2, "..t.", 3},
		{"....", 3, 3, "...t", 0},
		{"t...", 0, 1, ".t..", 2},
		{"t...", 1, 1, "tt..", 2},
		{"t...", 3, 3, "t..t", 0},
		{"tt..", 0, 2, "..t.", 3},
		{"tt..", 3, 3, "tt.t", 0},
		{"ttt.", 0, 3, "...t", 0},
		{"ttt.", 1, 3, "t..t", 0},
		{"ttt.", 2, 3, "tt.t", 0},
		{".ttt", 0, 0, "tttt", 1},
		{".ttt", 1, 0, "t...", 1},
		{".ttt", 3, 0, "ttt.", 1},
		{"t.tt", 2, 1, ".t..", 2},
		{"t.tt", 0, 1, ".ttt", 2},
		{"tt.t", 3, 2, "..t.", 3},
		{".t.t", 1, 2, "..tt", 3},
		{"t.t.", 2, 3, "t..t", 0},
		{"...t", 3, 0, "t...", 1},
		{"tttt", 0, 0, "t...", 1},
		{"tttt", 1, 1, ".t..", 2},
		{"tttt", 2, 2, "..t.", 3},
		{"tttt", 3, 3, "...t", 0},
		{"ttt.", 4, 3, "...t", 0},
		{"t...", -1, 1, ".t..", 2},
		{"tttt", 4, 0, "t...", 1},
		{"tttt", -1, 0, "t...", 1},
		{"....", -1, 0, "t...", 1},
		{"....", math.MaxInt, 0, "t...", 1},
		{".t..", math.MinInt, 0, "tt..", 1},
	} {
		s := filled(slots, marks(c.was), c.hand, 8)
		want := filled(slots, marks(c.after), c.next, 9)
		want.Ways[c.gone].Slot = 5
		got, i, was := Put(s, 5)
		if got != want || i != c.gone || was != slots[c.gone] {
			t.Errorf("put into %s from %d: %+v, way %d, %d given up, not %+v", c.was, c.hand, got, i, was, want)
		}
	}
}

// marks is a number whose bit i is 1 just if way i is touched in a text.
func marks(text string) int {
	n := 0
	for i, mark := range text {
		if mark == 't' {
			n |= 1 << i
		}
	}
	return n
}

func TestPutGivesUpSlotsAsTheyAre(t *testing.T) {
	for _, slot := range edgeSlots() {
		if slot == 0 {
			continue
		}
		for hand := range 4 {
			s := filled([4]int{slot, slot, slot, slot}, 0, hand, 0)
			got, i, was := Put(s, 1)
			if i != hand || was != slot || got.Ways[hand] != (Way{1, true}) {
				t.Errorf("put into %+v: %+v, way %d, %d given up", s, got, i, was)
			}
		}
	}
}

func TestATouchedWayIsNotGivenUpWhileAnotherOneIsNot(t *testing.T) {
	for _, s := range append(edges(), lots()...) {
		full, untouched := true, 0
		for _, way := range s.Ways {
			full = full && way.Slot != 0
			if !way.Touched {
				untouched++
			}
		}
		got, i, was := Put(s, 12)
		if full != (was != 0) {
			t.Fatalf("put into %+v: %d is given up", s, was)
		}
		if full && untouched > 0 && s.Ways[i].Touched {
			t.Fatalf("put into %+v: way %d, which is touched, is given up", s, i)
		}
		if got.Ways[i] != (Way{12, true}) {
			t.Fatalf("put into %+v: way %d is %+v", s, i, got.Ways[i])
		}
	}
}

func TestAWayIsGivenUpAtLastThoughItIsTouchedEachTime(t *testing.T) {
	for kept := range 4 {
		s := filled([4]int{101, 102, 103, 104}, 0, kept, 0)
		for n := range 3 {
			next, i, _ := Put(Touch(s, kept), n+1)
			if i != (kept+1+n)%4 {
				t.Fatalf("put %d into %+v: way %d", n+1, s, i)
			}
			s = next
		}
		// By now all are touched, so that it's the hand's way that goes, which is this one.
		next, i, was := Put(Touch(s, kept), 4)
		if i != kept || was != 101+kept || next.Turns != 8 {
			t.Fatalf("put into %+v: %+v, way %d, %d given up", s, next, i, was)
		}
	}
}

// model is a set as its slots, and a text of who is touched.
type model struct {
	slots [4]int
	marks string
	hand  int
	turns uint64
}

// set is the set of a model.
func (m model) set() Set {
	return filled(m.slots, marks(m.marks), m.hand, m.turns)
}

// mark is a model with another slot and another mark at a way.
func (m model) mark(i, slot int, to string) model {
	m.slots[i] = slot
	m.marks = m.marks[:i] + to + m.marks[i+1:]
	return m
}

// put is a model into which a slot was put, with the way and what was given up.
func (m model) put(slot int) (model, int, int) {
	for i, is := range m.slots {
		if is == 0 {
			return m.mark(i, slot, "t"), i, 0
		}
	}
	for m.marks[m.hand] == 't' {
		m = m.mark(m.hand, m.slots[m.hand], ".")
		m.hand = (m.hand + 1) & 3
	}
	i := m.hand
	was := m.slots[i]
	m.hand = (i + 1) & 3
	return m.mark(i, slot, "t"), i, was
}

// step does to a model and to a word what a number tells, and tells whether both answered the same.
func step(m model, w, x uint64) (model, uint64, bool) {
	i, slot, s := int(x>>8&3), int(x>>16&127), Read(w)
	same := true
	switch x & 7 {
	case 0:
		m, s = m.mark(i, 0, "."), Clear(s, i)
	case 1, 2:
		m, s = m.mark(i, m.slots[i], "t"), Touch(s, i)
	case 3:
		m, s = m.mark(i, slot, "t"), Swap(s, i, slot)
	default:
		next, at, gone := m.put(slot)
		got, way, was := Put(s, slot)
		m, s, same = next, got, way == at && was == gone
	}
	m.turns = (m.turns + 1) % room
	return m, Word(s), same
}

func TestALongWalkThroughWords(t *testing.T) {
	m := model{marks: "....", turns: room - 300}
	w := Word(m.set())
	for n, x := range somewhere(20000) {
		next, got, same := step(m, w, x)
		if !same || Read(got) != next.set() {
			t.Fatalf("step %d, %#x, of %+v: %+v, not %+v", n, x, m.set(), Read(got), next.set())
		}
		m, w = next, got
	}
}

func TestTheChapterExample(t *testing.T) {
	s, i, was := Put(Set{}, 7)
	if want := (Set{Ways: [4]Way{{7, true}}, Turns: 1}); s != want || i != 0 || was != 0 {
		t.Errorf("%+v, way %d, %d given up", s, i, was)
	}
	if got := s.Ways[0]; Word(s)&511 != 263 || Word(s) != 274877907207 || got != (Way{7, true}) {
		t.Errorf("the word is %d", Word(s))
	}
	if got := Read(274877907207); got != s {
		t.Errorf("read: %+v, not %+v", got, s)
	}
}
