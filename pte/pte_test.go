package pte

import (
	"math"
	"testing"

	"cotterel/api"
)

func TestExamples(t *testing.T) { // Pt1, Pt3: the chapter's examples
	if got := Of(0x0321); got != (api.Pte{Bits: api.PValid | api.PTouch, Page: 3}) {
		t.Errorf("Of: %v", got)
	}
	if a, b := Index(0x1fff, 0), Index(0x1fff, 1); a != 7 || b != 15 {
		t.Errorf("Index: %d, %d", a, b)
	}
}

func TestOf(t *testing.T) { // Pt1: entries written out
	for _, c := range []struct {
		w    uint32
		bits uint32
		page int
	}{
		{0, 0, 0}, {0xffffffff, 127, 255}, {0xffff, 127, 255}, {0xff7f, 127, 255}, {0xabcd, 0x4d, 0xab}, {0xffffabcd, 0x4d, 0xab}, {0x0100, 0, 1}, {0x017f, 127, 1}, {0x0000007f, 127, 0}, {0x0000ff00, 0, 255}, {0x00008000, 0, 128}, {0x00007f00, 0, 127}, {0x0000fe01, 1, 254},
		{0x80, 0, 0}, {0xffff0000, 0, 0}, {0xffff0080, 0, 0}, {0x10000, 0, 0}, {0x20000, 0, 0}, {0x80000000, 0, 0}, {0x12340000, 0, 0}, {0x123400a5, 0x25, 0}, {0xff, 127, 0}, {0x1ff, 127, 1}, {0x180, 0, 1}, {0x8000007f, 127, 0}, {0x01000100, 0, 1}, {0x00ff7f80, 0, 127}, {0x7f80ff7f, 127, 255},
	} {
		if got := Of(c.w); got != (api.Pte{Bits: c.bits, Page: c.page}) {
			t.Errorf("Of %#x: %#x, want %#x, %#x", c.w, got, c.bits, c.page)
		}
	}
}

func TestOfBits(t *testing.T) { // Pt1: each bit of a word alone, and all but each
	all := api.Pte{Bits: 127, Page: 255}
	for k := range 32 {
		var one api.Pte
		rest := all
		switch {
		case k < 7:
			one.Bits, rest.Bits = 1<<k, 127-1<<k
		case k >= 8 && k < 16:
			one.Page, rest.Page = 1<<(k-8), 255-1<<(k-8)
		}
		if got := Of(1 << k); got != one {
			t.Errorf("Of bit %d: %v", k, got)
		}
		if got := Of(math.MaxUint32 - 1<<k); got != rest {
			t.Errorf("Of all bits but %d: %v", k, got)
		}
	}
}

func TestOfNothing(t *testing.T) { // Pt1: bit 7 and bits 16 to 31 count for nothing in any word
	for low := range uint32(1 << 16) {
		want := wantOf(low)
		for _, w := range []uint32{low, low ^ 0x80, low | 0x10000, low | 0x80000000, low | 0xffff0000, low | 0x5a5a0080} {
			if got := Of(w); got != want {
				t.Fatalf("Of %#x: %v, want %v", w, got, want)
			}
		}
	}
}

func TestWord(t *testing.T) { // Pt1: words written out
	for _, c := range []struct {
		bits uint32
		page int
		want uint32
	}{
		{0, 0, 0}, {127, 255, 0xff7f}, {0x21, 3, 0x0321}, {1, 0, 1}, {0, 1, 0x100}, {0, 128, 0x8000}, {0x40, 128, 0x8040}, {0, 255, 0xff00}, {127, 0, 0x7f}, {0x55, 0xaa, 0xaa55},
		{0x80, 0, 0}, {0x81, 0, 1}, {0x100, 0, 0}, {0x17f, 0, 0x7f}, {0xffffffff, 0, 0x7f}, {0xffffff80, 0, 0}, {0xff80, 7, 0x700}, {0x80000000, 9, 0x900}, {0xffffff81, -1, 0xff01}, {0x10000, 0, 0},
		{0, 256, 0}, {0, 257, 0x100}, {0, 511, 0xff00}, {0, 512, 0}, {0, 0x1234, 0x3400}, {0, 65535, 0xff00}, {0, 65536, 0}, {0, 1<<24 + 1, 0x100}, {0, 1 << 24, 0}, {0, 1<<32 + 5, 0x500}, {0, 1 << 32, 0},
		{0, -1, 0xff00}, {0, -2, 0xfe00}, {0, -127, 0x8100}, {0, -128, 0x8000}, {0, -129, 0x7f00}, {0, -255, 0x100}, {0, -256, 0}, {0, -257, 0xff00}, {0, -512, 0}, {0, -65536, 0}, {0, -65537, 0xff00}, {3, -1 << 32, 3},
		{0, math.MaxInt, 0xff00}, {0, math.MaxInt - 1, 0xfe00}, {0, math.MaxInt - 255, 0}, {0, math.MinInt, 0}, {0, math.MinInt + 1, 0x100}, {0, math.MinInt + 255, 0xff00}, {0xffffffff, math.MaxInt, 0xff7f}, {0xffffffff, math.MinInt, 0x7f}, {0, math.MaxInt32, 0xff00}, {0, math.MinInt32, 0}, {0, math.MaxUint32, 0xff00}, {0, math.MaxUint32 - 1, 0xfe00},
	} {
		if got := Word(api.Pte{Bits: c.bits, Page: c.page}); got != c.want {
			t.Errorf("Word of %#x, %d: %#x, want %#x", c.bits, c.page, got, c.want)
		}
	}
}

func TestWordFlags(t *testing.T) { // Pt1: each flag by its name stands in its own bit
	for k, flag := range []uint32{api.PValid, api.PRead, api.PWrite, api.PExec, api.PUser, api.PTouch, api.PDirty} {
		if got := Word(api.Pte{Bits: flag}); got != 1<<k {
			t.Errorf("Word of flag %d: %#x", k, got)
		}
		if got := Of(1 << k); got != (api.Pte{Bits: flag}) {
			t.Errorf("Of bit %d: %v", k, got)
		}
	}
}

func TestWordBits(t *testing.T) { // Pt1: each bit of Bits and of Page alone, and all but each
	for k := range 32 {
		one, rest := uint32(0), uint32(127)
		if k < 7 {
			one, rest = 1<<k, 127-1<<k
		}
		for page, low := range map[int]uint32{0: 0, 255: 0xff00, 0x5a: 0x5a00, -1: 0xff00, 256: 0} {
			if got := Word(api.Pte{Bits: 1 << k, Page: page}); got != low+one {
				t.Errorf("Word of bit %d, page %d: %#x", k, page, got)
			}
			if got := Word(api.Pte{Bits: math.MaxUint32 - 1<<k, Page: page}); got != low+rest {
				t.Errorf("Word of all bits but %d, page %d: %#x", k, page, got)
			}
		}
	}
	for k := range 64 {
		one, rest := uint32(0), uint32(0xff00)
		if k < 8 {
			one, rest = 0x100<<k, 0xff00-0x100<<k
		}
		for n, low := range map[uint32]uint32{0: 0, 127: 127, 0x80: 0, 0xffffffff: 127, 0x2a: 0x2a} {
			if got := Word(api.Pte{Bits: n, Page: 1 << k}); got != one+low {
				t.Errorf("Word of page bit %d, bits %#x: %#x", k, n, got)
			}
			if got := Word(api.Pte{Bits: n, Page: -1 ^ 1<<k}); got != rest+low {
				t.Errorf("Word of all page bits but %d, bits %#x: %#x", k, n, got)
			}
		}
	}
}

func TestWordNothing(t *testing.T) { // Pt1: whatever stands beyond the bits that count, the word is that of the others
	for _, page := range ints() {
		for _, n := range numbers() {
			p := api.Pte{Bits: n, Page: page}
			got := Word(p)
			if got != wantWord(p) || got != Word(api.Pte{Bits: n & 127, Page: page & 255}) || got&^0xff7f != 0 {
				t.Fatalf("Word of %v: %#x", p, got)
			}
		}
	}
}

// sets is the sets of flags by which an access is allowed at least, in user mode and in kernel mode.
var sets = []struct {
	access       int
	user, kernel uint32
}{
	{api.Fetch, 0x39, 0x29},
	{api.Load, 0x33, 0x23},
	{api.Store, 0x75, 0x65},
}

func TestAllowsLeast(t *testing.T) { // Pt2: the flags that are needed suffice, and none of them can be missing
	for _, c := range sets {
		if !Allows(api.Pte{Bits: c.user}, c.access, false) || !Allows(api.Pte{Bits: c.kernel}, c.access, true) {
			t.Errorf("access %d is not allowed", c.access)
		}
		if Allows(api.Pte{Bits: c.kernel}, c.access, false) {
			t.Errorf("access %d is allowed in user mode without PUser", c.access)
		}
		for k := range 32 {
			user := c.user&(1<<k) == 0 // nothing is missed
			if got := Allows(api.Pte{Bits: math.MaxUint32 - 1<<k}, c.access, false); got != user {
				t.Errorf("access %d in user mode, all bits but %d: %v", c.access, k, got)
			}
			if got := Allows(api.Pte{Bits: c.user &^ (1 << k)}, c.access, false); got != user {
				t.Errorf("access %d in user mode, no more than is needed but bit %d: %v", c.access, k, got)
			}
			kernel := c.kernel&(1<<k) == 0
			if got := Allows(api.Pte{Bits: math.MaxUint32 - 1<<k}, c.access, true); got != kernel {
				t.Errorf("access %d in kernel mode, all bits but %d: %v", c.access, k, got)
			}
			if got := Allows(api.Pte{Bits: c.kernel &^ (1 << k)}, c.access, true); got != kernel {
				t.Errorf("access %d in kernel mode, no more than is needed but bit %d: %v", c.access, k, got)
			}
		}
	}
}

func TestAllowsSets(t *testing.T) { // Pt2: each set of flags, each access, both modes, with and without bits that count for nothing, whatever the page is
	counts := map[int][2]int{}
	for n := range uint32(128) {
		for _, c := range sets {
			user, kernel := n&c.user == c.user, n&c.kernel == c.kernel
			for _, bits := range spoilt(n) {
				for _, page := range []int{0, 1, 5, 127, 255, 256, -1, math.MaxInt, math.MinInt} {
					p := api.Pte{Bits: bits, Page: page}
					if Allows(p, c.access, false) != user || Allows(p, c.access, true) != kernel {
						t.Fatalf("entry %#x, access %d: want %v in user mode, %v in kernel mode", p, c.access, user, kernel)
					}
				}
			}
			count := counts[c.access]
			if Allows(api.Pte{Bits: n}, c.access, false) {
				count[0]++
			}
			if Allows(api.Pte{Bits: n}, c.access, true) {
				count[1]++
			}
			counts[c.access] = count
		}
	}
	if counts[api.Fetch] != [2]int{8, 16} || counts[api.Load] != [2]int{8, 16} || counts[api.Store] != [2]int{4, 8} {
		t.Errorf("sets that allow: %v", counts)
	}
}

func TestAllowsNothing(t *testing.T) { // Pt2: no other access is allowed, not even with all bits in kernel mode
	for _, access := range append(ints(), 5, 6, 7, 9, 10, 11) {
		if access == api.Fetch || access == api.Load || access == api.Store {
			continue
		}
		for n := range uint32(128) {
			for _, p := range []api.Pte{{Bits: n}, {Bits: n + 0xffffff80, Page: access}} {
				if Allows(p, access, false) || Allows(p, access, true) {
					t.Fatalf("entry %#x: access %d is allowed", p, access)
				}
			}
		}
	}
}

func TestLeaf(t *testing.T) { // Pt2: each set of flags, with and without bits that count for nothing, whatever the page is
	leaves := 0
	for n := range uint32(128) {
		want := n%16 > 1 // bits 1 to 3
		for _, bits := range spoilt(n) {
			for _, page := range []int{0, 1, 2, 14, 255, -1, math.MaxInt, math.MinInt} {
				if got := Leaf(api.Pte{Bits: bits, Page: page}); got != want {
					t.Fatalf("Leaf of %#x, page %d: %v", bits, page, got)
				}
			}
		}
		if Leaf(api.Pte{Bits: n}) {
			leaves++
		}
	}
	if leaves != 112 {
		t.Errorf("%d sets are of leaves", leaves)
	}
	for k := range 32 {
		if got := Leaf(api.Pte{Bits: 1 << k}); got != (k == 1 || k == 2 || k == 3) {
			t.Errorf("Leaf of bit %d: %v", k, got)
		}
	}
	for _, flag := range []uint32{api.PRead, api.PWrite, api.PExec} {
		if !Leaf(api.Pte{Bits: flag}) || Leaf(api.Pte{Bits: api.PValid | api.PUser | api.PTouch | api.PDirty}) {
			t.Errorf("Leaf of flag %#x", flag)
		}
	}
}

func TestIndex(t *testing.T) { // Pt3: indices written out
	for _, c := range []struct {
		va        uint32
		high, low int
	}{
		{0, 0, 0}, {0xffffffff, 15, 15}, {0x1fff, 7, 15}, {0x3fff, 15, 15}, {0x4000, 0, 0}, {0x3f, 0, 0}, {0x40, 0, 1}, {0x7f, 0, 1}, {0x80, 0, 2}, {0x3c0, 0, 15}, {0x3ff, 0, 15}, {0x400, 1, 0}, {0x43f, 1, 0}, {0x440, 1, 1}, {0x3c00, 15, 0}, {0x2940, 10, 5}, {0x16bf, 5, 10}, {0x12345678, 5, 9}, {0xffffc03f, 0, 0}, {0xffffc000, 0, 0}, {0x80000000, 0, 0}, {0x2000, 8, 0}, {0x200, 0, 8},
	} {
		if high, low := Index(c.va, 0), Index(c.va, 1); high != c.high || low != c.low {
			t.Errorf("Index of %#x: %d, %d, want %d, %d", c.va, high, low, c.high, c.low)
		}
	}
}

func TestIndexBits(t *testing.T) { // Pt3: each bit of an address alone, and all but each; those outside a field count for nothing
	for k := range 32 {
		high, low := 0, 0
		switch {
		case k >= 10 && k <= 13:
			high = 1 << (k - 10)
		case k >= 6 && k <= 9:
			low = 1 << (k - 6)
		}
		if a, b := Index(1<<k, 0), Index(1<<k, 1); a != high || b != low {
			t.Errorf("Index of bit %d: %d, %d", k, a, b)
		}
		if a, b := Index(math.MaxUint32-1<<k, 0), Index(math.MaxUint32-1<<k, 1); a != 15-high || b != 15-low {
			t.Errorf("Index of all bits but %d: %d, %d", k, a, b)
		}
	}
}

func TestIndexLevels(t *testing.T) { // Pt3: 0 at any other level
	for _, level := range append(ints(), 5, 6, 7, 9, 10, 13) {
		if level == 0 || level == 1 {
			continue
		}
		for _, va := range numbers() {
			if got := Index(va, level); got != 0 {
				t.Fatalf("Index of %#x at level %d: %d", va, level, got)
			}
		}
	}
}

func TestAddr(t *testing.T) { // Pt3: addresses written out
	for _, c := range []struct {
		page int
		va   uint32
		want uint32
	}{
		{0, 0, 0}, {0, 63, 63}, {0, 64, 0}, {0, 65, 1}, {1, 0, 64}, {1, 63, 127}, {1, 64, 64}, {5, 0x12345, 325}, {255, 0, 16320}, {255, 63, 16383}, {255, 0xffffffff, 16383}, {128, 0, 8192}, {3, 0xffffffc0, 192}, {3, 0x80000000, 192}, {3, 0x80000001, 193}, {2, 42, 170},
		{256, 0, 0}, {256, 1, 1}, {257, 0, 64}, {511, 2, 16322}, {512, 63, 63}, {65536, 0, 0}, {1 << 26, 0, 0}, {1<<26 + 1, 0, 64}, {1<<32 + 1, 7, 71}, {1 << 32, 7, 7}, {1 << 58, 0, 0}, {1 << 62, 5, 5},
		{-1, 0, 16320}, {-1, 63, 16383}, {-2, 0, 16256}, {-128, 0, 8192}, {-255, 0, 64}, {-256, 0, 0}, {-256, 9, 9}, {-257, 0, 16320}, {-1 << 32, 0, 0}, {-1<<32 - 1, 0, 16320}, {math.MaxInt, 0, 16320}, {math.MaxInt, 0xffffffff, 16383}, {math.MinInt, 0, 0}, {math.MinInt, 0xffffffff, 63}, {math.MinInt + 1, 0, 64}, {math.MaxUint32, 0, 16320},
	} {
		for _, bits := range []uint32{0, 1, 127, 0x80, 0xffffffff} { // whatever the flags are
			if got := Addr(api.Pte{Bits: bits, Page: c.page}, c.va); got != c.want {
				t.Errorf("Addr of page %d, address %#x, bits %#x: %d, want %d", c.page, c.va, bits, got, c.want)
			}
		}
	}
}

func TestAddrBits(t *testing.T) { // Pt3: each bit of an address and of a page alone, and all but each
	for _, page := range []int{0, 1, 2, 0x5a, 128, 254, 255} {
		for k := range 32 {
			one := uint32(0)
			if k < 6 {
				one = 1 << k
			}
			from := uint32(page) * 64
			for _, p := range []int{page, page + 256, page - 256, page + 1<<40, page - 1<<40} {
				if got := Addr(api.Pte{Page: p}, 1<<k); got != from+one {
					t.Errorf("Addr of page %d, bit %d: %d", p, k, got)
				}
				if got := Addr(api.Pte{Page: p}, math.MaxUint32-1<<k); got != from+63-one {
					t.Errorf("Addr of page %d, all bits but %d: %d", p, k, got)
				}
			}
		}
	}
	for k := range 64 {
		one := uint32(0)
		if k < 8 {
			one = 64 << k
		}
		if got := Addr(api.Pte{Page: 1 << k}, 0); got != one {
			t.Errorf("Addr of page bit %d: %d", k, got)
		}
		if got := Addr(api.Pte{Page: -1 ^ 1<<k}, 63); got != 16383-one {
			t.Errorf("Addr of all page bits but %d: %d", k, got)
		}
	}
}

func TestInverse(t *testing.T) { // Pt4: Of inverts Word for each entry, and Word gives back what counts of a word
	seen := make([]bool, 1<<16)
	for n := range uint32(128) {
		for page := range 256 {
			p := api.Pte{Bits: n, Page: page}
			w := Word(p)
			if got := Of(w); got != p || w > 0xffff || seen[w] {
				t.Fatalf("Of the word %#x of %v: %v", w, p, got)
			}
			seen[w] = true
		}
	}
	for w := range uint32(1 << 16) {
		if got := Word(Of(w)); got != w&^0x80 || seen[w] != (w&0x80 == 0) {
			t.Fatalf("Word of the entry of %#x: %#x", w, got)
		}
	}
	for _, w := range numbers() {
		if got := Word(Of(w)); got != w&0xff7f {
			t.Errorf("Word of the entry of %#x: %#x", w, got)
		}
	}
	for _, n := range numbers() { // what does not count is gone
		for _, page := range ints() {
			if got := Of(Word(api.Pte{Bits: n, Page: page})); got != (api.Pte{Bits: n & 127, Page: page & 255}) {
				t.Fatalf("Of the word of %#x, %d: %v", n, page, got)
			}
		}
	}
}

func TestMore(t *testing.T) { // Pt4: what is allowed remains allowed with more bits, and in kernel mode
	for _, access := range []int{-1, 0, api.Fetch, api.Load, api.Store, 4, math.MaxInt, math.MinInt} {
		for n := range uint32(128) {
			for _, kernel := range []bool{false, true} {
				if !Allows(api.Pte{Bits: n}, access, kernel) {
					continue
				}
				if !Allows(api.Pte{Bits: n}, access, true) {
					t.Fatalf("access %d with bits %#x is allowed in user mode alone", access, n)
				}
				for more := range uint32(256) {
					if !Allows(api.Pte{Bits: n | more}, access, kernel) || !Allows(api.Pte{Bits: n | more<<24}, access, kernel) {
						t.Fatalf("access %d with bits %#x is not allowed any more with %#x", access, n, more)
					}
				}
			}
		}
	}
}

func TestDetermined(t *testing.T) { // Pt4: two indices and the lowest 6 bits are those of one address below 2^14 alone
	seen := make([]bool, 1<<14)
	for va := range uint32(1 << 14) {
		high, low := Index(va, 0), Index(va, 1)
		rest := Addr(api.Pte{}, va)
		place := (high*16+low)*64 + int(rest)
		if high < 0 || high > 15 || low < 0 || low > 15 || rest > 63 || place != int(va) || seen[place] {
			t.Fatalf("address %#x: %d, %d, %d", va, high, low, rest)
		}
		seen[place] = true
		if got := Addr(api.Pte{Page: high*16 + low}, va); got != va { // the page that the indices number is its own
			t.Fatalf("Addr of the page of %#x: %#x", va, got)
		}
		if Index(va+1<<14, 0) != high || Index(va|0xffffc000, 1) != low {
			t.Fatalf("indices of %#x beyond 2^14", va)
		}
	}
}

func TestModel(t *testing.T) { // Pt1 to Pt3: numbers of every kind with one another
	x := uint64(12)
	words, all := numbers(), ints()
	for _, w := range words {
		for k, n := range all {
			check(t, w, api.Pte{Bits: words[choose(&x, len(words))], Page: n}, all[choose(&x, len(all))], k%4-1, words[choose(&x, len(words))])
			check(t, words[choose(&x, len(words))], api.Pte{Bits: w, Page: choose(&x, 600) - 300}, k%6-1, n, w)
		}
	}
}

func TestRandom(t *testing.T) { // Pt1 to Pt3: numbers without a rule
	x := uint64(1)
	for range 300000 {
		check(t, word(&x), api.Pte{Bits: word(&x), Page: number(&x)}, number(&x), number(&x), word(&x))
		check(t, word(&x), api.Pte{Bits: word(&x), Page: number(&x)}, 1+choose(&x, 3), choose(&x, 2), word(&x))
	}
}

func TestRepeated(t *testing.T) { // R4: calls repeated, with others between, answer the same
	x := uint64(7)
	for range 20 {
		w, p, access, level, va := word(&x), api.Pte{Bits: word(&x), Page: number(&x)}, 1+choose(&x, 3), choose(&x, 2), word(&x)
		type answers struct {
			of           api.Pte
			word         uint32
			user, kernel bool
			leaf         bool
			index        int
			addr         uint32
		}
		ask := func() answers {
			return answers{Of(w), Word(p), Allows(p, access, false), Allows(p, access, true), Leaf(p), Index(va, level), Addr(p, va)}
		}
		first := ask()
		for range 50 {
			check(t, word(&x), api.Pte{Bits: word(&x), Page: number(&x)}, number(&x), number(&x), word(&x))
			if again := ask(); again != first {
				t.Fatalf("%v, then %v", first, again)
			}
		}
	}
}
