package pte

import (
	"math"
	"math/big"
	"slices"
	"testing"

	"cotterel/api"
)

// Each letter is a flag, in the order of their bits from the lowest on: valid, read, write, executable, user, touched, dirty.
const letters = "vrwxutd"

// flags is the letters of the flags that are set, those of bits that count.
func flags(n uint32) string {
	text := ""
	for _, letter := range letters {
		if n%2 == 1 {
			text += string(letter)
		}
		n /= 2
	}
	return text
}

// has reports whether each of some letters stands in a text.
func has(text, some string) bool {
	for _, letter := range some {
		if !slices.Contains([]rune(text), letter) {
			return false
		}
	}
	return true
}

// below is the remainder, from 0 on, of a number without bounds.
func below(n int, m int64) int64 {
	return new(big.Int).Mod(big.NewInt(int64(n)), big.NewInt(m)).Int64()
}

// wantOf is what Of must return: the word as its bytes, of which the highest two and the eighth bit of the lowest are nothing.
func wantOf(w uint32) api.Pte {
	low, page := w%256, w/256%256
	return api.Pte{Bits: low % 128, Page: int(page)}
}

// wantWord is what Word must return.
func wantWord(p api.Pte) uint32 {
	return uint32(below(p.Page, 256))*256 + p.Bits%128
}

// permits is the letters that an access asks for in user mode, nothing if there is no such access.
var permits = map[int]string{1: "vtxu", 2: "vtru", 3: "vtwdu"}

// wantAllows is what Allows must return.
func wantAllows(p api.Pte, access int, kernel bool) bool {
	asked, ok := permits[access]
	set := flags(p.Bits)
	if kernel {
		set += "u"
	}
	return ok && has(set, asked)
}

// wantLeaf is what Leaf must return.
func wantLeaf(p api.Pte) bool {
	set := flags(p.Bits)
	return has(set, "r") || has(set, "w") || has(set, "x")
}

// wantIndex is what Index must return: an address is a number of tables of 16 tables of 16 pages of 64 bytes.
func wantIndex(va uint32, level int) int {
	switch page := va / 64; level {
	case 0:
		return int(page / 16 % 16)
	case 1:
		return int(page % 16)
	}
	return 0
}

// wantAddr is what Addr must return.
func wantAddr(p api.Pte, va uint32) uint32 {
	return uint32(below(p.Page, 256))*64 + va%64
}

// check holds all calls with a word, an entry, an access, a level and an address against the model.
func check(t *testing.T, w uint32, p api.Pte, access, level int, va uint32) {
	t.Helper()
	wrong := func(call string, got, want any) {
		t.Helper()
		t.Fatalf("%s, word %#x, entry %#x, access %d, level %d, address %#x: %#x, want %#x", call, w, p, access, level, va, got, want)
	}
	if got, want := Of(w), wantOf(w); got != want {
		wrong("Of", got, want)
	}
	if got, want := Word(p), wantWord(p); got != want {
		wrong("Word", got, want)
	}
	for _, kernel := range []bool{false, true} {
		if got, want := Allows(p, access, kernel), wantAllows(p, access, kernel); got != want {
			wrong("Allows", got, want)
		}
	}
	if got, want := Leaf(p), wantLeaf(p); got != want {
		wrong("Leaf", got, want)
	}
	if got, want := Index(va, level), wantIndex(va, level); got != want {
		wrong("Index", got, want)
	}
	if got, want := Addr(p, va), wantAddr(p, va); got != want {
		wrong("Addr", got, want)
	}
}

// numbers is numbers of 32 bits: each bit alone, all but each, runs of the lowest and of the highest, and some without a rule.
func numbers() []uint32 {
	l := []uint32{0, math.MaxUint32, 0x12345678, 0x87654321, 0xaaaaaaaa, 0x55555555, 0xf0f0f0f0, 0x0321, 0x1fff, 0x00ff, 0xff00, 0xff80, 0xffff0080}
	for k := range 32 {
		l = append(l, 1<<k, ^uint32(1<<k), 1<<k-1, ^uint32(1<<k-1))
	}
	slices.Sort(l)
	return slices.Compact(l)
}

// ints is numbers to stand for a page, an access or a level: each bit alone, also with a sign, what is around each, and the ends.
func ints() []int {
	l := []int{math.MaxInt, math.MaxInt - 1, math.MinInt, math.MinInt + 1, 170, -170, 12345, -12345, -257, -256, -255, -129, -128, -127, 254, 511, 513}
	for k := range 63 {
		for d := -4; d <= 4; d++ {
			l = append(l, 1<<k+d, -1<<k+d)
		}
	}
	slices.Sort(l)
	return slices.Compact(l)
}

// spoilt is bits without and with others beyond bit 6, which count for nothing.
func spoilt(n uint32) []uint32 {
	l := []uint32{n, n + 0xffffff80, n + 0x55555500, n + 0xaaaaaa80}
	for k := 7; k < 32; k++ {
		l = append(l, n+1<<k)
	}
	return l
}

// choose is a number below n, and another one each time.
func choose(x *uint64, n int) int {
	*x = *x*6364136223846793005 + 1442695040888963407
	return int(*x>>33) % n
}

// word is a number of 32 bits, small ones, great ones and any.
func word(x *uint64) uint32 {
	v := uint32(choose(x, 1<<16))<<16 | uint32(choose(x, 1<<16))
	switch choose(x, 4) {
	case 0:
		return v % 1024
	case 1:
		return math.MaxUint32 - v%1024
	}
	return v
}

// number is a number of 64 bits, small ones with either sign, great ones and any.
func number(x *uint64) int {
	v := int(uint64(word(x))<<32 | uint64(word(x)))
	switch choose(x, 4) {
	case 0:
		return v % 300
	case 1:
		return v % 5
	}
	return v
}
