// Package bits extracts, inserts, rotates and extends fields of 32-bit words and converts words to bytes.
package bits

// clamp replaces a number outside lo..hi by the nearer bound.
func clamp(n, lo, hi int) int {
	return max(lo, min(n, hi))
}

// ones is the word whose lowest n bits are set, n from 0 to 32. A shift by 32 gives 0, so that no case needs to be set apart.
func ones(n int) uint32 {
	return uint32(1)<<n - 1
}

// Zext is the lowest n bits, with all others 0.
func Zext(x uint32, n int) uint32 {
	return x & ones(clamp(n, 0, 32))
}

// Sext is the lowest n bits, with all others equal to the highest of these.
func Sext(x uint32, n int) uint32 {
	// An arithmetic shift to the right repeats the sign; for n = 0 nothing is left to repeat.
	gap := 32 - clamp(n, 0, 32)
	return uint32(int32(x<<gap) >> gap)
}

// Field is the bits from lo to hi, as a number.
func Field(x uint32, hi, lo int) uint32 {
	hi, lo = clamp(hi, 0, 31), clamp(lo, 0, 31)
	if hi < lo {
		return 0
	}
	return x >> lo & ones(hi-lo+1)
}

// Put is a word whose bits from lo to hi are replaced by the lowest bits of v.
func Put(x uint32, hi, lo int, v uint32) uint32 {
	hi, lo = clamp(hi, 0, 31), clamp(lo, 0, 31)
	if hi < lo {
		return x
	}
	mask := ones(hi-lo+1) << lo
	return x&^mask | v<<lo&mask
}

// Rot turns a word to the right by n modulo 32 bits.
func Rot(x uint32, n int) uint32 {
	// The lowest five bits are n modulo 32 for a negative n too, where % is not.
	k := n & 31
	return x>>k | x<<(32-k)
}

// Aligned reports whether a size is 1, 2 or 4 and an address a multiple of it.
func Aligned(addr uint32, size int) bool {
	switch size {
	case 1, 2, 4:
		return addr%uint32(size) == 0
	}
	return false
}

// Bytes is the lowest bytes of a word, the least significant first.
func Bytes(v uint32, size int) []byte {
	b := make([]byte, clamp(size, 0, 4))
	for k := range b {
		b[k] = byte(v >> (8 * k))
	}
	return b
}

// Of is the word of the first four bytes, the least significant first; missing ones are 0.
func Of(b []byte) uint32 {
	var v uint32
	for k := range min(len(b), 4) {
		v |= uint32(b[k]) << (8 * k)
	}
	return v
}

// Merge is a word in which the lowest size bytes of v are laid from byte at on; those that fall outside are dropped.
func Merge(old, v uint32, at, size int) uint32 {
	at, size = clamp(at, -4, 4), clamp(size, 0, 4)
	for k := range 4 {
		from := k - at
		if from >= 0 && from < size {
			old = Put(old, 8*k+7, 8*k, v>>(8*from))
		}
	}
	return old
}
