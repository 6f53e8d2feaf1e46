package field

import (
	"math"
	"slices"
	"testing"
)

// places is where parts begin, below bit 0, within a word, above bit 63, and as far off as an int goes.
func places() []int {
	l := []int{math.MinInt, math.MinInt + 1, math.MinInt + 64, math.MinInt / 2, -1000, 1000, math.MaxInt / 2, math.MaxInt - 64, math.MaxInt - 1, math.MaxInt}
	for at := -130; at <= 130; at++ {
		l = append(l, at)
	}
	return l
}

// widths is sizes of parts, below 1 and above 64 among them.
func widths() []int {
	l := []int{math.MinInt, math.MinInt + 1, math.MinInt / 2, -64, -1, 1000, math.MaxInt / 2, math.MaxInt - 64, math.MaxInt - 1, math.MaxInt}
	for size := 0; size <= 132; size++ {
		l = append(l, size)
	}
	return l
}

// words is some words, most of them with bits that tell where they lie.
func words() []uint64 {
	return []uint64{0, math.MaxUint64, 1, 1 << 63, 0x0123456789abcdef, 0xfedcba9876543210, 0xa5a5a5a500ff3c01, 4080}
}

// within tells which bit of a part a word's bit is, straight from what a part is.
func within(bit, at, size int) (uint64, bool) {
	if size < 1 || bit < at {
		return 0, false
	}
	d := uint64(bit) - uint64(at)
	return d, d < uint64(size)
}

// bitOf is a number's bit, 0 if there is none.
func bitOf(n, bit uint64) uint64 {
	if bit > 63 {
		return 0
	}
	return n >> bit & 1
}

// slowMask, slowCut and slowSet do bit by bit what the chapter says.
func slowMask(at, size int) uint64 {
	out := uint64(0)
	for b := range 64 {
		if _, ok := within(b, at, size); ok {
			out |= 1 << b
		}
	}
	return out
}

func slowCut(w uint64, at, size int) uint64 {
	out := uint64(0)
	for b := range 64 {
		if d, ok := within(b, at, size); ok && d < 64 {
			out |= bitOf(w, uint64(b)) << d
		}
	}
	return out
}

func slowSet(w uint64, at, size int, n uint64) uint64 {
	for b := range 64 {
		if d, ok := within(b, at, size); ok {
			w = w&^(1<<b) | bitOf(n, d)<<b
		}
	}
	return w
}

// 1.1

func TestMask(t *testing.T) {
	for _, c := range []struct {
		at, size int
		want     uint64
	}{
		{0, 1, 1}, {0, 64, math.MaxUint64}, {4, 8, 4080}, {63, 1, 1 << 63}, {1, 63, math.MaxUint64 - 1},
		{60, 9, 15 << 60}, {63, math.MaxInt, 1 << 63}, {0, 65, math.MaxUint64}, {1, 64, math.MaxUint64 - 1},
		{-3, 8, 31}, {-1, 66, math.MaxUint64}, {-1, 64, 1<<63 - 1}, {-3, 3, 0}, {-3, 4, 1}, {-64, 65, 1},
		{math.MinInt, math.MaxInt, 0}, {-1, math.MaxInt, math.MaxUint64}, {64, 1, 0}, {math.MaxInt, math.MaxInt, 0},
		{4, 0, 0}, {4, -1, 0}, {-4, -8, 0}, {-1, math.MinInt, 0}, {math.MinInt, math.MinInt, 0},
	} {
		if got := Mask(c.at, c.size); got != c.want {
			t.Errorf("Mask(%d, %d): %#x, not %#x", c.at, c.size, got, c.want)
		}
	}
}

func TestMaskBitByBit(t *testing.T) {
	for _, at := range places() {
		for _, size := range widths() {
			if got, want := Mask(at, size), slowMask(at, size); got != want {
				t.Fatalf("Mask(%d, %d): %#x, not %#x", at, size, got, want)
			}
		}
	}
}

func TestCut(t *testing.T) {
	w := uint64(0x0123456789abcdef)
	for _, c := range []struct {
		w        uint64
		at, size int
		want     uint64
	}{
		{4080, 4, 8, 255}, {w, 0, 64, w}, {w, 8, 16, 0xabcd}, {w, 56, 8, 1}, {w, 60, 4, 0}, {w, 52, 100, 0x12},
		{w, -4, 12, 0xef0}, {w, -4, 64, w << 4}, {w, -8, 200, w << 8}, {w, -63, 64, 1 << 63}, {w, -64, 128, 0},
		{w, -4, 4, 0}, {w, 64, 8, 0}, {w, math.MaxInt, math.MaxInt, 0}, {w, math.MinInt, math.MaxInt, 0},
		{w, 8, 0, 0}, {w, 8, -1, 0}, {w, -1, math.MinInt, 0},
	} {
		if got := Cut(c.w, c.at, c.size); got != c.want {
			t.Errorf("Cut(%#x, %d, %d): %#x, not %#x", c.w, c.at, c.size, got, c.want)
		}
	}
}

func TestCutBitByBit(t *testing.T) {
	for _, w := range words() {
		for _, at := range places() {
			for _, size := range widths() {
				if got, want := Cut(w, at, size), slowCut(w, at, size); got != want {
					t.Fatalf("Cut(%#x, %d, %d): %#x, not %#x", w, at, size, got, want)
				}
			}
		}
	}
}

func TestSet(t *testing.T) {
	const all = math.MaxUint64
	for _, c := range []struct {
		w        uint64
		at, size int
		n, want  uint64
	}{
		{0, 4, 8, 511, 4080}, {all, 4, 8, 0, all - 4080}, {all, 0, 64, 5, 5}, {0, 60, 9, all, 15 << 60}, {0, 63, 1, 2, 0},
		{0, -4, 8, 0xab, 0xa}, {all, -4, 8, 0xab, all - 5}, {all, -4, 100, 0xab, 0xa}, {all, -64, 200, all, 0}, {all, -1, 66, all, all >> 1},
		{7, 64, 8, all, 7}, {7, -8, 8, all, 7}, {7, math.MaxInt, math.MaxInt, all, 7}, {7, math.MinInt, math.MaxInt, all, 7},
		{7, 0, 0, 0, 7}, {7, 0, -1, 0, 7}, {7, -1, math.MinInt, 0, 7}, {7, math.MinInt, math.MinInt, 0, 7},
	} {
		if got := Set(c.w, c.at, c.size, c.n); got != c.want {
			t.Errorf("Set(%#x, %d, %d, %#x): %#x, not %#x", c.w, c.at, c.size, c.n, got, c.want)
		}
	}
}

func TestSetBitByBit(t *testing.T) {
	for _, w := range words() {
		for _, n := range words() {
			for _, at := range places() {
				for _, size := range widths() {
					if got, want := Set(w, at, size, n), slowSet(w, at, size, n); got != want {
						t.Fatalf("Set(%#x, %d, %d, %#x): %#x, not %#x", w, at, size, n, got, want)
					}
				}
			}
		}
	}
}

func TestHasAndTurn(t *testing.T) {
	for _, w := range words() {
		for _, bit := range places() {
			there := bit >= 0 && bit <= 63
			has, on, off := false, w, w
			if there {
				has, on, off = w>>bit&1 == 1, w|1<<bit, w&^(1<<bit)
			}
			if Has(w, bit) != has {
				t.Fatalf("Has(%#x, %d): not %v", w, bit, has)
			}
			if got := Turn(w, bit, true); got != on {
				t.Fatalf("Turn(%#x, %d, true): %#x, not %#x", w, bit, got, on)
			}
			if got := Turn(w, bit, false); got != off {
				t.Fatalf("Turn(%#x, %d, false): %#x, not %#x", w, bit, got, off)
			}
		}
	}
}

// 1.2

func ones(n int) []int {
	return slices.Repeat([]int{1}, n)
}

func TestPack(t *testing.T) {
	const all = math.MaxUint64
	for _, c := range []struct {
		sizes []int
		ns    []uint64
		want  uint64
		ok    bool
	}{
		{[]int{4, 8}, []uint64{3, 5}, 83, true},
		{[]int{8, 4}, []uint64{3, 5}, 1283, true},
		{nil, nil, 0, true}, {[]int{}, nil, 0, true}, {nil, []uint64{}, 0, true},
		{[]int{64}, []uint64{all}, all, true}, {[]int{1, 63}, []uint64{1, 1<<63 - 1}, all, true},
		{[]int{63, 1}, []uint64{0, 1}, 1 << 63, true}, {[]int{32, 31, 1}, []uint64{1, 1, 1}, 1 | 1<<32 | 1<<63, true},
		{ones(64), slices.Repeat([]uint64{1}, 64), all, true},
		{[]int{4, 8}, []uint64{15, 255}, 4095, true},
		// As many sizes as numbers.
		{[]int{4}, nil, 0, false}, {nil, []uint64{0}, 0, false}, {[]int{4, 8}, []uint64{3}, 0, false}, {[]int{4}, []uint64{3, 0}, 0, false},
		// A size from 1 to 64.
		{[]int{0}, []uint64{0}, 0, false}, {[]int{-1}, []uint64{0}, 0, false}, {[]int{65}, []uint64{0}, 0, false},
		{[]int{4, 0}, []uint64{3, 0}, 0, false}, {[]int{70, -10}, []uint64{0, 0}, 0, false}, {[]int{10, -5, 10}, []uint64{1, 0, 1}, 0, false},
		{[]int{math.MaxInt}, []uint64{0}, 0, false}, {[]int{math.MinInt}, []uint64{0}, 0, false},
		// All together at most 64.
		{[]int{64, 1}, []uint64{0, 0}, 0, false}, {[]int{32, 33}, []uint64{0, 0}, 0, false}, {ones(65), make([]uint64, 65), 0, false},
		{[]int{1, math.MaxInt}, []uint64{0, 0}, 0, false}, {[]int{math.MaxInt, math.MaxInt, 2}, []uint64{0, 0, 0}, 0, false},
		{ones(100000), make([]uint64, 100000), 0, false},
		// No bit beyond its size.
		{[]int{4}, []uint64{16}, 0, false}, {[]int{4, 8}, []uint64{3, 256}, 0, false}, {[]int{63}, []uint64{1 << 63}, 0, false},
		{[]int{4, 8}, []uint64{all, 5}, 0, false}, {[]int{1}, []uint64{2}, 0, false},
	} {
		sizes, ns := slices.Clone(c.sizes), slices.Clone(c.ns)
		got, ok := Pack(c.sizes, c.ns)
		if got != c.want || ok != c.ok {
			t.Errorf("Pack(%v, %v): %#x, %v, not %#x, %v", sizes, ns, got, ok, c.want, c.ok)
		}
		if !slices.Equal(sizes, c.sizes) || !slices.Equal(ns, c.ns) {
			t.Errorf("Pack(%v, %v) changed what it was given", sizes, ns)
		}
	}
}

func TestUnpack(t *testing.T) {
	const all = math.MaxUint64
	for _, c := range []struct {
		sizes []int
		w     uint64
		want  []uint64
		ok    bool
	}{
		{[]int{4, 8}, 83, []uint64{3, 5}, true},
		{[]int{8, 4}, 1283, []uint64{3, 5}, true},
		{[]int{4, 8}, 4095, []uint64{15, 255}, true},
		{[]int{4, 8}, 0, []uint64{0, 0}, true},
		{nil, 0, nil, true}, {[]int{}, 0, nil, true},
		{[]int{64}, all, []uint64{all}, true}, {[]int{1, 63}, all, []uint64{1, 1<<63 - 1}, true}, {[]int{63, 1}, 1 << 63, []uint64{0, 1}, true},
		{ones(64), all, slices.Repeat([]uint64{1}, 64), true},
		// No bit beyond all sizes.
		{[]int{4, 8}, 4096, nil, false}, {[]int{4, 8}, 1<<63 | 83, nil, false}, {nil, 1, nil, false}, {[]int{}, 1 << 63, nil, false},
		{[]int{63}, 1 << 63, nil, false}, {[]int{1}, 2, nil, false},
		// Sizes as in Pack.
		{[]int{0}, 0, nil, false}, {[]int{-1}, 0, nil, false}, {[]int{65}, 0, nil, false}, {[]int{4, 0}, 3, nil, false},
		{[]int{70, -10}, 0, nil, false}, {[]int{10, -5, 10}, 0, nil, false}, {[]int{64, 1}, 0, nil, false}, {[]int{32, 33}, 0, nil, false}, {ones(65), 0, nil, false},
		{[]int{math.MaxInt}, 0, nil, false}, {[]int{math.MinInt}, 0, nil, false}, {[]int{1, math.MaxInt}, 0, nil, false},
		{[]int{math.MaxInt, math.MaxInt, 2}, 0, nil, false}, {ones(100000), 0, nil, false},
	} {
		sizes := slices.Clone(c.sizes)
		got, ok := Unpack(c.sizes, c.w)
		if !slices.Equal(got, c.want) || ok != c.ok {
			t.Errorf("Unpack(%v, %#x): %v, %v, not %v, %v", sizes, c.w, got, ok, c.want, c.ok)
		}
		if !slices.Equal(sizes, c.sizes) {
			t.Errorf("Unpack(%v, %#x) changed what it was given", sizes, c.w)
		}
	}
}

func TestUnpackTellsNewMemory(t *testing.T) {
	sizes := []int{4, 8}
	one, _ := Unpack(sizes, 83)
	one[0], one[1] = 9, 9
	sizes[0], sizes[1] = 8, 4
	if two, ok := Unpack([]int{4, 8}, 83); !ok || !slices.Equal(two, []uint64{3, 5}) {
		t.Errorf("Unpack kept what it told: %v, %v", two, ok)
	}
}

// 1.3

func TestBitsAndNumber(t *testing.T) {
	for _, c := range []struct {
		n int64
		w uint64
	}{
		{0, 0}, {1, 1}, {5, 5}, {math.MaxInt64, 1<<63 - 1},
		{-1, math.MaxUint64}, {-2, math.MaxUint64 - 1}, {-4096, math.MaxUint64 - 4095}, {math.MinInt64 + 1, 1<<63 + 1}, {math.MinInt64, 1 << 63},
	} {
		if got := Bits(c.n); got != c.w {
			t.Errorf("Bits(%d): %#x, not %#x", c.n, got, c.w)
		}
		if got := Number(c.w); got != c.n {
			t.Errorf("Number(%#x): %d, not %d", c.w, got, c.n)
		}
	}
}

// 1.4

func TestWhatWasSetIsCut(t *testing.T) {
	for _, w := range words() {
		for _, n := range words() {
			for _, at := range places() {
				for _, size := range widths() {
					set, mask := Set(w, at, size, n), Mask(at, size)
					if set&^mask != w&^mask {
						t.Fatalf("Set(%#x, %d, %d, %#x) changed other bits: %#x", w, at, size, n, set)
					}
					// Of n only those bits come back that have a bit of the word to lie in.
					there := Cut(mask, at, size)
					if got := Cut(set, at, size); got != n&there {
						t.Fatalf("Cut of Set(%#x, %d, %d, %#x): %#x, not %#x", w, at, size, n, got, n&there)
					}
				}
			}
		}
	}
}

func TestWhatIsPackedIsUnpacked(t *testing.T) {
	for first := 1; first <= 64; first++ {
		for second := 1; first+second <= 64; second++ {
			sizes := []int{first, second}
			for _, x := range words() {
				ns := []uint64{x & slowMask(0, first), x >> 5 & slowMask(0, second)}
				w, ok := Pack(sizes, ns)
				if !ok {
					t.Fatalf("Pack(%v, %v) was refused", sizes, ns)
				}
				if got, ok := Unpack(sizes, w); !ok || !slices.Equal(got, ns) {
					t.Fatalf("Unpack of Pack(%v, %v): %v, %v", sizes, ns, got, ok)
				}
			}
		}
	}
}

func TestWhatIsUnpackedIsPacked(t *testing.T) {
	for _, sizes := range [][]int{{64}, {1, 63}, {8, 32, 23, 1}, {2, 32, 30}, ones(64)} {
		for _, w := range words() {
			ns, ok := Unpack(sizes, w)
			if !ok {
				t.Fatalf("Unpack(%v, %#x) was refused", sizes, w)
			}
			if got, ok := Pack(sizes, ns); !ok || got != w {
				t.Fatalf("Pack of Unpack(%v, %#x): %#x, %v", sizes, w, got, ok)
			}
		}
	}
}
