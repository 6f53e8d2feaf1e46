// Package field is layer 1: parts of words of 64 bits. See shared/doc/01-field.md.
package field

// wordBits is how many bits a word has.
const wordBits = 64

// Mask is a part's bits.
func Mask(at, size int) uint64 {
	if size < 1 {
		return 0
	}
	if at < 0 {
		// Only what is left of the part from bit 0 on counts; the sum can't wrap round, as the signs differ.
		return lowest(at + size)
	}
	return lowest(size) << at
}

// Cut is a part as a number.
func Cut(w uint64, at, size int) uint64 {
	return lower(w&Mask(at, size), at)
}

// Set changes a part.
func Set(w uint64, at, size int, n uint64) uint64 {
	m := Mask(at, size)
	return w&^m | lift(n, at)&m
}

// Has tells whether a bit is 1.
func Has(w uint64, bit int) bool {
	return w&Mask(bit, 1) != 0
}

// Turn changes a bit.
func Turn(w uint64, bit int, on bool) uint64 {
	if on {
		return w | Mask(bit, 1)
	}
	return w &^ Mask(bit, 1)
}

// Pack lays numbers side by side.
func Pack(sizes []int, ns []uint64) (uint64, bool) {
	if _, ok := together(sizes); !ok || len(sizes) != len(ns) {
		return 0, false
	}
	w, at := uint64(0), 0
	for i, size := range sizes {
		if ns[i]&^lowest(size) != 0 {
			return 0, false
		}
		w = Set(w, at, size, ns[i])
		at += size
	}
	return w, true
}

// Unpack takes numbers that lie side by side.
func Unpack(sizes []int, w uint64) ([]uint64, bool) {
	total, ok := together(sizes)
	if !ok || w&^lowest(total) != 0 {
		return nil, false
	}
	ns, at := make([]uint64, len(sizes)), 0
	for i, size := range sizes {
		ns[i] = Cut(w, at, size)
		at += size
	}
	return ns, true
}

// Bits is a number's bits.
func Bits(n int64) uint64 {
	return uint64(n)
}

// Number is the number with bits.
func Number(w uint64) int64 {
	return int64(w)
}

// lowest is a word whose lowest bits are 1, so many of them as there are.
func lowest(size int) uint64 {
	if size < 1 {
		return 0
	}
	return ^uint64(0) >> (wordBits - min(size, wordBits))
}

// lift has a number's bit 0 lie at a bit; what leaves the word is lost.
func lift(n uint64, at int) uint64 {
	if at < 0 {
		return n >> below(at)
	}
	return n << at
}

// lower has what lies at a bit be the number's bit 0: lift's other way.
func lower(w uint64, at int) uint64 {
	if at < 0 {
		return w << below(at)
	}
	return w >> at
}

// below is how far below bit 0 a bit is. It turns the sign as uint, as the lowest int has no int of its amount.
func below(at int) uint {
	return -uint(at)
}

// together is how many bits parts of these sizes have, side by side, if they have room in a word.
func together(sizes []int) (int, bool) {
	total := 0
	for _, size := range sizes {
		// Each sum is held against the word at once, so that no long list wraps it round.
		if size < 1 || size > wordBits-total {
			return 0, false
		}
		total += size
	}
	return total, true
}
