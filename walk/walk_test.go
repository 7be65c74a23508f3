package walk

import (
	"fmt"
	"math"
	"slices"
	"testing"

	"cotterel/api"
)

// tables is 320 bytes with a table at 64 whose entries lead to others at 128, 192 and 256, to none, to itself and beyond the end.
func tables() []byte {
	m := make([]byte, 320)
	put(m, 64, to("v", 2), to("vut", 3), to("vr", 2), to("ut", 2), to("v", 4), to("v", 5), 0, to("vx", 2), to("vw", 2))
	put(m, 124, to("vd", 1))
	put(m, 128, to("vr", 9), to("vx", 255), to("vw", 0), to("rwxutd", 9), to("vutd", 9))
	put(m, 188, to("vrwxutd", 128))
	put(m, 220, to("vrx", 3))
	put(m, 316, to("vru", 1))
	return m
}

func TestWalk(t *testing.T) { // Wa1: walks written out: the entry, and the addresses of what was read
	zero := api.Pte{}
	for _, c := range []struct {
		root, va uint32
		p        api.Pte
		read     []uint32
	}{
		{64, 0, api.Pte{Bits: 3, Page: 9}, []uint32{64, 128}},
		{64, 63, api.Pte{Bits: 3, Page: 9}, []uint32{64, 128}},
		{64, 64, api.Pte{Bits: 9, Page: 255}, []uint32{64, 132}},
		{64, 128 + 5, api.Pte{Bits: 5, Page: 0}, []uint32{64, 136}},
		{64, 15 * 64, api.Pte{Bits: 127, Page: 128}, []uint32{64, 188}},
		{64, 1024 + 7*64, api.Pte{Bits: 11, Page: 3}, []uint32{68, 220}},
		{64, 4*1024 + 15*64, api.Pte{Bits: 19, Page: 1}, []uint32{80, 316}},
		{64, 15*1024 + 2*64, api.Pte{Bits: 3, Page: 2}, []uint32{124, 72}}, // the table is its own
		{64, 15*1024 + 7*64, api.Pte{Bits: 9, Page: 2}, []uint32{124, 92}},
		{0, 15*1024 + 8*64, zero, []uint32{60}},
		{4, 15*1024 + 8*64, zero, []uint32{64, 160}},
		{4, 15 * 1024, api.Pte{Bits: 3, Page: 9}, []uint32{64, 128}},
		{68, 14*1024 + 2*64, api.Pte{Bits: 3, Page: 2}, []uint32{124, 72}},

		{64, 192, zero, []uint32{64, 140}}, // not valid
		{64, 256, zero, []uint32{64, 144}}, // no leaf
		{64, 320, zero, []uint32{64, 148}}, // nothing
		{64, 1024, zero, []uint32{68, 192}},
		{64, 2 * 1024, zero, []uint32{72}}, // leaves
		{64, 7 * 1024, zero, []uint32{92}},
		{64, 8 * 1024, zero, []uint32{96}},
		{64, 3 * 1024, zero, []uint32{76}}, // not valid
		{64, 4*1024 + 14*64, zero, []uint32{80, 312}},
		{64, 5 * 1024, zero, []uint32{84}}, // beyond the end
		{64, 5*1024 + 15*64, zero, []uint32{84}},
		{64, 6 * 1024, zero, []uint32{88}},
		{64, 15 * 1024, zero, []uint32{124, 64}},
		{64, 15*1024 + 15*64, zero, []uint32{124, 124}}, // one word, read twice
		{64, 0x3fff, zero, []uint32{124, 124}},
		{65, 0, zero, []uint32{65}},
		{316, 0, zero, []uint32{316}},
		{317, 0, zero, nil},
		{320, 0, zero, nil},
		{260, 15 * 1024, zero, nil},
		{256, 15 * 1024, zero, []uint32{316}},
		{1 << 31, 0, zero, nil},

		{64, 0x4000, zero, nil}, // from 2^14 on
		{64, 0x4040, zero, nil},
		{64, 0x8000, zero, nil},
		{64, 1 << 31, zero, nil},
		{64, math.MaxUint32, zero, nil},

		{0xffffffc4, 15 * 1024, zero, []uint32{0}}, // the sum is modulo 2^32
		{0xffffffc4, 14 * 1024, zero, nil},
		{0xfffffffc, 0, zero, nil},
		{0xfffffffc, 1024, zero, []uint32{0}},
		{0xffffffff, 0, zero, nil},
		{0xffffffff, 1024, zero, []uint32{3}},
		{0xffffffff, 15 * 1024, zero, []uint32{59}},
	} {
		shadow, same := kept(tables())
		p, read, ok := Walk(shadow, c.root, c.va)
		if p != c.p || !slices.Equal(read, c.read) || ok != (c.p != zero) {
			t.Errorf("Walk of %#x from %#x: %#x, %d, %v, want %#x, %d", c.va, c.root, p, read, ok, c.p, c.read)
		}
		if !same() {
			t.Errorf("Walk of %#x from %#x: the shadow is another one", c.va, c.root)
		}
		checkWalk(t, tables(), c.root, c.va)
	}
}

func TestWalkAddresses(t *testing.T) { // Wa1: each address below 2^14, in a shadow where each is mapped, and none above
	shadow := every(2048, 192, 4)
	for va := range uint32(1 << 14) {
		p, read, ok := Walk(shadow, 192, va)
		high, low := va/1024, va/64%16
		second := (4+high)*64 + low*4
		if !ok || p != (api.Pte{Bits: 0x77, Page: int(second/4*37+11) % 256}) || !slices.Equal(read, []uint32{192 + 4*high, second}) {
			t.Fatalf("Walk of %#x: %#x, %d, %v", va, p, read, ok)
		}
	}
	for k := uint32(14); k < 32; k++ {
		for _, va := range []uint32{1 << k, 1<<k + 64, 1<<k + 1024, 1<<k + 0x3fff, math.MaxUint32 << k, math.MaxUint32<<k + 0x2a95} {
			if p, read, ok := Walk(shadow, 192, va); p != (api.Pte{}) || len(read) != 0 || ok {
				t.Errorf("Walk of %#x: %#x, %d, %v", va, p, read, ok)
			}
		}
	}
	for _, va := range numbers() {
		_, read, ok := Walk(shadow, 192, va)
		if below := va < 1<<14; ok != below || len(read) > 0 != below {
			t.Errorf("Walk of %#x: %d, %v", va, read, ok)
		}
	}
}

func TestWalkRoots(t *testing.T) { // Wa1: roots at which the first entry lies inside, across and beyond the end, also such as are no multiple of 4
	for _, n := range []int{0, 1, 2, 3, 4, 5, 6, 7, 8, 9, 31, 32, 61, 62, 63, 64, 65, 66, 67, 68, 127, 128, 192, 321} {
		shadow := make([]byte, n)
		for at := 0; at < n; at++ {
			shadow[at] = byte(at*85 + 1) // words of all kinds, each at any place
		}
		for root := -70; root <= n+9; root++ {
			for high := range uint32(16) {
				at := uint32(root) + 4*high
				inside := int64(at)+4 <= int64(n)
				_, read, _ := Walk(shadow, uint32(root), high*1024)
				if inside != (len(read) > 0) || inside && read[0] != at {
					t.Fatalf("Walk of entry %d from %d in %d bytes: %d", high, root, n, read)
				}
				for low := uint32(0); low < 16; low += 5 {
					checkWalk(t, shadow, uint32(root), high*1024+low*64+low)
				}
			}
		}
	}
}

func TestWalkUneven(t *testing.T) { // Wa1: a table at any place is read as it stands there
	for root := range 60 {
		shadow := make([]byte, 256)
		for k := range 16 {
			put(shadow, root+4*k, to("v", 3))
		}
		for k := range uint32(16) {
			put(shadow, 192+4*int(k), to("vrwd", 200+k))
		}
		for page := range uint32(256) {
			p, read, ok := Walk(shadow, uint32(root), page*64)
			high, low := page/16, page%16
			if !ok || p != (api.Pte{Bits: 0x47, Page: 200 + int(low)}) || !slices.Equal(read, []uint32{uint32(root) + 4*high, 192 + 4*low}) {
				t.Fatalf("Walk of page %d from %d: %#x, %d, %v", page, root, p, read, ok)
			}
		}
	}
}

func TestWalkAround(t *testing.T) { // Wa1: roots close to 2^32: entries behind the end of all addresses stand at the beginning
	for back := uint32(1); back <= 68; back++ {
		root := -back
		shadow := make([]byte, 256)
		for k := range 16 {
			put(shadow, 4*k-int(back), to("v", 2))
		}
		put(shadow, 128, to("vx", 77))
		for high := range uint32(16) {
			p, read, ok := Walk(shadow, root, high*1024)
			if 4*high < back {
				if p != (api.Pte{}) || len(read) != 0 || ok {
					t.Fatalf("Walk of entry %d from %#x: %#x, %d, %v", high, root, p, read, ok)
				}
				continue
			}
			if !ok || p != (api.Pte{Bits: 9, Page: 77}) || !slices.Equal(read, []uint32{4*high - back, 128}) {
				t.Fatalf("Walk of entry %d from %#x: %#x, %d, %v", high, root, p, read, ok)
			}
		}
	}
}

func TestWalkFirst(t *testing.T) { // Wa1: first entries with each set of flags: those that are valid and no leaves lead on, whatever else the word has
	reached := 0
	for n, set := range sets() {
		leads := n%2 == 1 && n%16 == 1 // valid, and none of the three flags of a leaf
		if leads {
			reached++
		}
		for _, noise := range []uint32{0, 0x80, 0xffff0080, 0x10000, 0x80000000, 0x55550000, 0xaaaa0080} {
			shadow := one(to(set, 2)+noise, to("vru", 9))
			p, read, ok := Walk(shadow, 0, oneAt)
			want, places := api.Pte{}, []uint32{16}
			if leads {
				want, places = api.Pte{Bits: 0x13, Page: 9}, []uint32{16, 160}
			}
			if p != want || !slices.Equal(read, places) || ok != leads {
				t.Fatalf("Walk by a first entry with %q, %#x more: %#x, %d, %v", set, noise, p, read, ok)
			}
		}
	}
	if reached != 8 {
		t.Errorf("%d sets lead on", reached)
	}
}

func TestWalkSecond(t *testing.T) { // Wa1: second entries with each set of flags: those that are valid and leaves are the answer, the bits that count of them
	given := 0
	for n, set := range sets() {
		gives := n%2 == 1 && n%16 > 1
		if gives {
			given++
		}
		for _, page := range []uint32{0, 1, 2, 3, 127, 128, 254, 255} {
			for _, noise := range []uint32{0, 0x80, 0xffff0080, 0x10000, 0x80000000, 0x55550000, 0xaaaa0080} {
				shadow := one(to("v", 2), to(set, page)+noise)
				p, read, ok := Walk(shadow, 0, oneAt)
				want := api.Pte{}
				if gives {
					want = api.Pte{Bits: uint32(n), Page: int(page)}
				}
				if p != want || !slices.Equal(read, []uint32{16, 160}) || ok != gives {
					t.Fatalf("Walk by a second entry with %q, page %d, %#x more: %#x, %d, %v", set, page, noise, p, read, ok)
				}
			}
		}
	}
	if given != 56 {
		t.Errorf("%d sets give a page", given)
	}
}

func TestWalkPages(t *testing.T) { // Wa1: first entries whose page lies inside, across and beyond the end
	for _, n := range []int{64, 65, 66, 67, 68, 127, 128, 131, 132, 1000, 1024, 16000, 16320, 16379, 16380, 16383, 16384, 16385, 16448, 20000} {
		shadow := make([]byte, n)
		for at := 64; at < n; at += 4 {
			put(shadow, at, to("vr", uint32(at/4)%256))
		}
		for page := range uint32(256) {
			put(shadow, 20, to("vutd", page))
			for _, low := range []uint32{0, 1, 7, 8, 14, 15} {
				at := page*64 + low*4
				p, read, ok := Walk(shadow, 0, 5*1024+low*64)
				inside := int(at)+4 <= n
				want := api.Pte{}
				if inside && page > 0 {
					want = api.Pte{Bits: 3, Page: int(at/4) % 256}
				}
				places := []uint32{20, at}
				if !inside {
					places = places[:1]
				}
				if p != want || !slices.Equal(read, places) || ok != (want.Bits == 3) {
					t.Fatalf("Walk to page %d, entry %d, in %d bytes: %#x, %d, %v", page, low, n, p, read, ok)
				}
			}
		}
	}
}

func TestWalkCut(t *testing.T) { // Wa1: a shadow cut at each place: what is not there in whole is not read
	whole := one(to("v", 2), to("vw", 33))
	for n := range len(whole) + 1 {
		p, read, ok := Walk(whole[:n], 0, oneAt)
		places, want := []uint32{16, 160}, api.Pte{}
		switch {
		case n < 20:
			places = nil
		case n < 164:
			places = places[:1]
		default:
			want = api.Pte{Bits: 5, Page: 33}
		}
		if p != want || !slices.Equal(read, places) || ok != (n >= 164) {
			t.Errorf("Walk in %d bytes: %#x, %d, %v", n, p, read, ok)
		}
	}
	for _, none := range [][]byte{nil, {}, {1}, {1, 2}, {1, 2, 3}, make([]byte, 0, 256)} {
		for _, root := range numbers() {
			if p, read, ok := Walk(none, root, 0); p != (api.Pte{}) || len(read) != 0 || ok {
				t.Fatalf("Walk from %#x in %d bytes: %#x, %d, %v", root, len(none), p, read, ok)
			}
		}
	}
}

func TestWalkLong(t *testing.T) { // Wa1: shadows that are longer than memory can be: a root may lie anywhere in them, a second table may not
	shadow := make([]byte, 1<<20)
	put(shadow, 192, to("vr", 1), to("vw", 2))
	for _, root := range []uint32{1 << 14, 1<<14 + 64, 1 << 16, 1<<16 + 3, 1<<17 + 192, 1<<20 - 64} {
		put(shadow, int(root), to("v", 3))
		put(shadow, int(root)+60, to("v", 255))
		p, read, ok := Walk(shadow, root, 64)
		if !ok || p != (api.Pte{Bits: 5, Page: 2}) || !slices.Equal(read, []uint32{root, 196}) {
			t.Errorf("Walk of 64 from %#x: %#x, %d, %v", root, p, read, ok)
		}
		p, read, ok = Walk(shadow, root, 0x3fff)
		if ok || p != (api.Pte{}) || !slices.Equal(read, []uint32{root + 60, 16380}) {
			t.Errorf("Walk of 0x3fff from %#x: %#x, %d, %v", root, p, read, ok)
		}
	}
}

func TestWalkBits(t *testing.T) { // Wa1: each bit of both words and of the address alone, and all but each
	for _, first := range numbers() {
		for _, second := range numbers() {
			checkWalk(t, one(first, second), 0, oneAt)
		}
		checkWalk(t, one(to("v", 2), first), 0, oneAt)
		checkWalk(t, one(first&0xffff00ff+2*256, to("vr", 3)), 0, oneAt)
	}
	shadow := every(2048, 0, 4)
	for _, va := range numbers() {
		checkWalk(t, shadow, 0, va)
		for _, root := range numbers() {
			checkWalk(t, shadow, root, va)
		}
	}
}

func TestWalkAny(t *testing.T) { // Wa1: shadows, roots and addresses without a rule
	x := uint64(1)
	counts := map[int]int{}
	for range 20000 {
		shadow := anyShadow(&x)
		given, same := kept(shadow)
		for range 4 {
			root, va := anyRoot(&x, len(shadow)), anyAddress(&x)
			checkWalk(t, given, root, va)
			_, read, ok := Walk(given, root, va)
			counts[len(read)]++
			if ok {
				counts[3]++
			}
		}
		if !same() {
			t.Fatalf("a shadow of %d bytes is another one", len(shadow))
		}
	}
	for n := range 4 {
		if counts[n] < 5000 {
			t.Errorf("walks: %v", counts)
		}
	}
}

func TestFault(t *testing.T) { // Wa2: the cause of each access, TBus for all others
	for access, want := range map[int]int{api.Fetch: api.TFetch, api.Load: api.TLoad, api.Store: api.TStore, 0: api.TBus, 4: api.TBus, -1: api.TBus, math.MaxInt: api.TBus, math.MinInt: api.TBus} {
		if got := Fault(access); got != want {
			t.Errorf("Fault of %d: %d, want %d", access, got, want)
		}
	}
	known := 0
	for _, access := range accesses() {
		got := Fault(access)
		if got != wantFault(access) {
			t.Errorf("Fault of %d: %d", access, got)
		}
		if got != 9 {
			known++
		}
	}
	if known != 3 {
		t.Errorf("%d accesses have causes of their own", known)
	}
}

func TestPaged(t *testing.T) { // Wa2: SPaged in user mode alone, whatever the other bits and the other registers hold
	for _, status := range append(numbers(), 16, 17, 0x10, 0x11, 0x3e, 0x3f, 0x2f, 0x2e, 0x30, 0x31) {
		want := status&api.SPaged != 0 && status&api.SKernel == 0
		for _, a := range []api.Arch{paged(0), full(0, 0), full(0, 64), full(0, math.MaxUint32)} {
			a.C[api.CStatus] = status
			if got := Paged(a); got != want {
				t.Errorf("Paged with status %#x: %v", status, got)
			}
		}
	}
	for k := range 32 {
		if Paged(full(1<<k, 0)) != (k == 4) || Paged(full(1<<k|api.SPaged, 0)) != (k != 0) || Paged(full(math.MaxUint32-1<<k, 0)) != (k == 0) {
			t.Errorf("Paged with status bit %d", k)
		}
	}
	for k := range api.Csrs { // no other register is looked at
		a := paged(0)
		if k != api.CStatus {
			a.C[k] = math.MaxUint32
		}
		b := full(api.SKernel|api.SPaged, 0)
		c := full(api.SSingle|api.SEnable, 0)
		if k != api.CStatus {
			b.C[k], c.C[k] = 16, 16
		}
		if !Paged(a) || Paged(b) || Paged(c) {
			t.Errorf("Paged with register %d", k)
		}
	}
	x := uint64(2)
	for range 2000 {
		status := uint32(choose(&x, 1<<16))<<16 + uint32(choose(&x, 1<<16))
		a := full(status, 0)
		a.PC, a.Halt = status, choose(&x, 2) == 0
		if Paged(a) != wantPaged(a) {
			t.Fatalf("Paged of %v", a)
		}
	}
}

func TestTransPlain(t *testing.T) { // Wa3: where addresses are not virtual, each is itself, whatever the access is and whatever tables there are
	shadow := every(2048, 0, 4)
	for _, status := range []uint32{0, api.SKernel, api.SKernel | api.SPaged, api.SSingle | api.SEnable | api.SWasK | api.SWasE, 0xffffffff, 0xffffffef} {
		for _, root := range []uint32{0, 64, math.MaxUint32} {
			a := full(status, root)
			for _, va := range append(numbers(), 0x3fff, 0x4000, 100, 0xfffffff0) {
				for _, access := range accesses() {
					if addr, cause := Trans(a, shadow, va, access); addr != va || cause != api.TNone {
						t.Fatalf("Trans of %#x, status %#x, access %d: %#x, %d", va, status, access, addr, cause)
					}
				}
				if addr, cause := Trans(a, nil, va, api.Load); addr != va || cause != api.TNone {
					t.Fatalf("Trans of %#x, status %#x, without a shadow: %#x, %d", va, status, addr, cause)
				}
			}
		}
	}
}

func TestTrans(t *testing.T) { // Wa3: answers written out
	m := tables()
	put(m, 128, to("vrut", 9), to("vxut", 255), to("vwutd", 0), to("vrwxut", 7), to("vrwxtd", 8), to("vrwxud", 9), to("rwxutd", 10), to("vrwxutd", 11), to("vrwut", 12), to("vutd", 13))
	for _, c := range []struct {
		va                 uint32
		fetch, load, store int // the address, or less the cause
	}{
		{0, -1, 576, -6}, {63, -1, 639, -6}, {64, 16320, -4, -6}, {127, 16383, -4, -6}, {128, -1, -4, 0}, {191, -1, -4, 63},
		{192, 448, 448, -6}, // not dirty
		{256, -1, -4, -6},   // the kernel's
		{320, -1, -4, -6},   // not touched
		{384, -1, -4, -6},   // not valid
		{448 + 42, 746, 746, 746},
		{512 + 1, -1, 769, -6},
		{576, -1, -4, -6}, // no leaf
		{640, -1, -4, -6}, // nothing
		{2048, -1, -4, -6}, {3072, -1, -4, -6}, {5120, -1, -4, -6}, {16383, -1, -4, -6}, {16384, -1, -4, -6}, {16384 + 448, -1, -4, -6}, {math.MaxUint32, -1, -4, -6},
	} {
		for access, want := range map[int]int{api.Fetch: c.fetch, api.Load: c.load, api.Store: c.store, 0: -9, 4: -9, -1: -9, 9: -9, math.MaxInt: -9, math.MinInt: -9} {
			for _, a := range []api.Arch{paged(64), full(api.SPaged, 64), full(0xfffffffe, 64)} {
				addr, cause := Trans(a, m, c.va, access)
				if want >= 0 && (addr != uint32(want) || cause != 0) || want < 0 && (addr != 0 || cause != -want) {
					t.Errorf("Trans of %#x, access %d: %#x, %d, want %d", c.va, access, addr, cause, want)
				}
			}
		}
	}
}

func TestTransSets(t *testing.T) { // Wa3: each set of flags, each access: those of user mode are needed
	needs := map[int]uint32{
		api.Fetch: api.PValid | api.PTouch | api.PUser | api.PExec,
		api.Load:  api.PValid | api.PTouch | api.PUser | api.PRead,
		api.Store: api.PValid | api.PTouch | api.PUser | api.PWrite | api.PDirty,
	}
	counts := map[int]int{}
	for n, set := range sets() {
		for _, page := range []uint32{0, 1, 128, 255} {
			shadow := one(to("v", 2), to(set, page)+0xffff0080)
			for _, access := range accesses() {
				need, ok := needs[access]
				addr, cause := Trans(paged(0), shadow, oneAt+37, access)
				if ok && uint32(n)&need == need {
					counts[access]++
					if addr != page*64+37 || cause != 0 {
						t.Fatalf("Trans by %q, page %d, access %d: %#x, %d", set, page, access, addr, cause)
					}
				} else if addr != 0 || cause != wantFault(access) {
					t.Fatalf("Trans by %q, page %d, access %d: %#x, %d", set, page, access, addr, cause)
				}
			}
		}
	}
	if counts[api.Fetch] != 32 || counts[api.Load] != 32 || counts[api.Store] != 16 {
		t.Errorf("allowed: %v", counts)
	}
}

func TestTransFirst(t *testing.T) { // Wa3: the flags of the first entry permit and refuse nothing
	for n, set := range sets() {
		shadow := one(to(set, 2), to("vrwxutd", 3))
		for access, fault := range map[int]int{api.Fetch: 1, api.Load: 4, api.Store: 6} {
			addr, cause := Trans(paged(0), shadow, oneAt+1, access)
			if n%16 == 1 && (addr != 193 || cause != 0) || n%16 != 1 && (addr != 0 || cause != fault) {
				t.Errorf("Trans by a first entry with %q, access %d: %#x, %d", set, access, addr, cause)
			}
		}
	}
}

func TestTransRoot(t *testing.T) { // Wa3: the walk is from CRoot as it stands, and from no other register
	shadow := make([]byte, 1024)
	put(shadow, 200, to("v", 8))
	put(shadow, 512, to("vrwxutd", 5))
	for root := range uint32(300) {
		a := full(api.SPaged, root)
		for k := range a.C {
			if k != api.CRoot && k != api.CStatus {
				a.C[k] = 200
			}
		}
		for high := range uint32(16) {
			addr, cause := Trans(a, shadow, high*1024+9, api.Load)
			if root+4*high == 200 {
				if addr != 329 || cause != 0 {
					t.Errorf("Trans of entry %d from %d: %#x, %d", high, root, addr, cause)
				}
			} else if addr != 0 || cause != api.TLoad {
				t.Errorf("Trans of entry %d from %d: %#x, %d", high, root, addr, cause)
			}
		}
	}
	put(shadow, 4, to("v", 8)) // its root is 8 less than 2^32
	if addr, cause := Trans(paged(0xfffffff8), shadow, 3*1024, api.Store); addr != 320 || cause != 0 {
		t.Errorf("Trans from 0xfffffff8: %#x, %d", addr, cause)
	}
}

func TestTransAny(t *testing.T) { // Wa3, Wa2: cores, shadows, addresses and accesses without a rule
	x := uint64(3)
	wrong := accesses()
	counts := map[int]int{}
	for range 20000 {
		shadow := anyShadow(&x)
		given, same := kept(shadow)
		for range 4 {
			a := full(uint32(choose(&x, 64))&^1|16, anyRoot(&x, len(shadow)))
			if choose(&x, 8) == 0 {
				a.C[api.CStatus] = uint32(choose(&x, 256))
			}
			access := 1 + choose(&x, 3)
			if choose(&x, 8) == 0 {
				access = wrong[choose(&x, len(wrong))]
			}
			va := anyAddress(&x)
			before := a
			checkTrans(t, a, given, va, access)
			if _, cause := Trans(a, given, va, access); Paged(a) {
				counts[cause]++
			}
			if a != before || !same() {
				t.Fatalf("Trans of %#x: what was handed in is another one", va)
			}
		}
	}
	for _, cause := range []int{api.TNone, api.TFetch, api.TLoad, api.TStore, api.TBus} {
		if counts[cause] < 500 {
			t.Errorf("causes: %v", counts)
		}
	}
}

func TestMap(t *testing.T) { // Wa4: names written out
	want := []api.Name{
		{Text: "r-----", Val: 0x00009}, {Text: "--x---", Val: 0x100ff}, {Text: "-w----", Val: 0x20000}, {Text: "rwxutd", Val: 0xf0080},
		{Text: "r-x---", Val: 0x170003},
		{Text: "r--u--", Val: 0x4f0001},
		{Text: "r-----", Val: 0xf20002}, {Text: "--x---", Val: 0xf70002}, {Text: "-w----", Val: 0xf80002},
	}
	shadow, same := kept(tables())
	if got := Map(shadow, 64); !slices.Equal(got, want) || !same() {
		t.Errorf("Map: %v, want %v", got, want)
	}
	for _, root := range []uint32{0, 4, 60, 65, 68, 128, 316, 317, 320, 1 << 14, 1 << 31, 0xffffffc0, 0xffffffc4, 0xffffffff} {
		checkMap(t, tables(), root)
	}
}

func TestMapNone(t *testing.T) { // Wa4: tables that map no page
	for _, shadow := range [][]byte{nil, {}, {3}, {1, 0, 0}, make([]byte, 64), make([]byte, 1<<14), slices.Repeat([]byte{0xff}, 1<<14), slices.Repeat([]byte{1, 0, 0, 0}, 1<<12), slices.Repeat([]byte{0x7e, 1, 0, 0}, 1<<12), slices.Repeat([]byte{0x7f, 1, 0, 0}, 1<<12)} {
		for _, root := range []uint32{0, 4, 64, 1 << 13, 1<<14 - 64, 1 << 14, 1 << 31, math.MaxUint32 - 63} {
			if got := Map(shadow, root); len(got) != 0 {
				t.Errorf("Map from %#x of %d bytes: %v", root, len(shadow), got)
			}
		}
	}
}

func TestMapOne(t *testing.T) { // Wa4: one page, at each place, is told by its own number
	for high := range 16 {
		for low := range 16 {
			shadow := make([]byte, 192)
			put(shadow, 4*high, to("v", 2))
			put(shadow, 128+4*low, to("vrx", uint32(high*low)))
			want := api.Name{Text: "r-x---", Val: uint32(high*16+low)*65536 + uint32(high*low)}
			if got := Map(shadow, 0); len(got) != 1 || got[0] != want {
				t.Fatalf("Map with entries %d, %d: %v, want %v", high, low, got, want)
			}
		}
	}
}

func TestMapSets(t *testing.T) { // Wa4: each set of flags, each letter at its place
	seen := map[string]bool{}
	for n, set := range sets() {
		got := Map(one(to("vut", 2), to(set, 200)+0xffff0080), 0)
		if n%2 == 0 || n%16 == 1 {
			if len(got) != 0 {
				t.Errorf("Map by %q: %v", set, got)
			}
			continue
		}
		text := []byte("------")
		for k, letter := range []byte("rwxutd") {
			if n>>(k+1)%2 == 1 {
				text[k] = letter
			}
		}
		if len(got) != 1 || got[0] != (api.Name{Text: string(text), Val: 0x4800c8}) || seen[string(text)] {
			t.Errorf("Map by %q: %v, want %s", set, got, text)
		}
		seen[string(text)] = true
	}
	if len(seen) != 56 {
		t.Errorf("%d texts", len(seen))
	}
	for k, flag := range []uint32{api.PUser, api.PTouch, api.PDirty} {
		got := Map(one(api.PValid|2<<8, api.PValid|api.PRead|flag), 0)
		if len(got) != 1 || got[0].Text != []string{"r--u--", "r---t-", "r----d"}[k] {
			t.Errorf("Map by flag %#x: %v", flag, got)
		}
	}
	for k, flag := range []uint32{api.PRead, api.PWrite, api.PExec} {
		got := Map(one(api.PValid|2<<8, api.PValid|flag), 0)
		if len(got) != 1 || got[0].Text != []string{"r-----", "-w----", "--x---"}[k] {
			t.Errorf("Map by flag %#x: %v", flag, got)
		}
	}
}

func TestMapPages(t *testing.T) { // Wa4: each physical page is told; several virtual ones may have the same
	for page := range uint32(256) {
		shadow := one(to("v", 2), to("vrt", page))
		put(shadow, 48, to("v", 2))
		want := []api.Name{{Text: "r---t-", Val: 0x480000 + page}, {Text: "r---t-", Val: 0xc80000 + page}}
		if got := Map(shadow, 0); !slices.Equal(got, want) {
			t.Fatalf("Map of page %d: %v", page, got)
		}
	}
}

func TestMapAll(t *testing.T) { // Wa4: all 256 pages, in increasing order, from one table for each first entry and from one for all
	shadow := every(2048, 192, 4)
	got := checkMap(t, shadow, 192)
	if len(got) != 256 {
		t.Fatalf("%d names", len(got))
	}
	for k, name := range got {
		if want := uint32(k)<<16 + uint32((64+k)*37+11)%256; name != (api.Name{Text: "rw-utd", Val: want}) {
			t.Errorf("name %d: %v, want %#x", k, name, want)
		}
	}
	for k := range 16 {
		put(shadow, 192+4*k, to("v", 31))
	}
	got = checkMap(t, shadow, 192)
	for k, name := range got {
		if want := uint32(k)<<16 + uint32((496+k%16)*37+11)%256; len(got) != 256 || name != (api.Name{Text: "rw-utd", Val: want}) {
			t.Errorf("name %d of %d: %v, want %#x", k, len(got), name, want)
		}
	}
	last := slices.Repeat([]byte{0}, 1<<14)
	put(last, 0, to("v", 255))
	put(last, 1<<14-4, to("vx", 255))
	if got := Map(last, 0); !slices.Equal(got, []api.Name{{Text: "--x---", Val: 0xf00ff}}) {
		t.Errorf("Map of the last word: %v", got)
	}
	if got := Map(last[:1<<14-1], 0); len(got) != 0 {
		t.Errorf("Map of the last word, cut: %v", got)
	}
}

func TestMapCut(t *testing.T) { // Wa4: tables that the end of the shadow cuts
	shadow := every(640, 0, 2)
	for n := range len(shadow) + 1 {
		got := checkMap(t, shadow[:n], 0)
		want := 0
		for page := range 256 {
			if at := 128 + page*4; at+4 <= n {
				want++
			}
		}
		if n < 64 {
			want = 0
		}
		if len(got) != want {
			t.Fatalf("Map of %d bytes: %d names, want %d", n, len(got), want)
		}
	}
}

func TestMapWalk(t *testing.T) { // Wa4: a page has a name where the walk of its address succeeds, and there alone; shadows without a rule
	x := uint64(4)
	total := 0
	for range 1500 {
		shadow := anyShadow(&x)
		given, same := kept(shadow)
		root := anyRoot(&x, len(shadow))
		names := checkMap(t, given, root)
		total += len(names)
		for page := range uint32(256) {
			p, _, ok := Walk(given, root, page*64)
			if !ok {
				continue
			}
			if len(names) == 0 || names[0].Val != page<<16+uint32(p.Page) || len(names[0].Text) != 6 {
				t.Fatalf("Map from %#x in %d bytes, page %d: %v", root, len(shadow), page, names)
			}
			names = names[1:]
		}
		if len(names) > 0 || !same() {
			t.Fatalf("Map from %#x in %d bytes: %v is left", root, len(shadow), names)
		}
	}
	if total < 2000 {
		t.Errorf("%d names", total)
	}
}

func TestOffsets(t *testing.T) { // Wa5: all addresses of a page are translated alike: to the same page, each with its own offset, or none
	shadow := every(2048, 192, 4)
	for k := range 512 { // of any flags
		if at := 4 * k; at >= 256 {
			put(shadow, at, uint32(k*0x9e37+k/7))
		}
	}
	put(shadow, 200, to("vr", 6))
	put(shadow, 204, 0)
	put(shadow, 208, to("v", 32))
	a := paged(192)
	allowed := 0
	for page := range uint32(257) { // one beyond all virtual pages
		for access := range 5 {
			first, cause := Trans(a, shadow, page*64, access)
			if cause == 0 {
				allowed++
			}
			for offset := range uint32(64) {
				addr, c := Trans(a, shadow, page*64+offset, access)
				if c != cause || c == 0 && addr != first+offset || c != 0 && addr != 0 || first%64 != 0 {
					t.Fatalf("Trans of page %d, offset %d, access %d: %#x, %d, at first %#x, %d", page, offset, access, addr, c, first, cause)
				}
				if told(shadow, 192, page*64+offset) != told(shadow, 192, page*64) {
					t.Fatalf("Walk of page %d, offset %d", page, offset)
				}
			}
		}
	}
	if allowed < 20 {
		t.Errorf("%d accesses are allowed", allowed)
	}
}

func TestOthers(t *testing.T) { // Wa5: a walk depends on the words that it reads, and on no other byte
	x := uint64(5)
	changed := 0
	for range 3000 {
		shadow := anyShadow(&x)
		root, va := anyRoot(&x, len(shadow)), anyAddress(&x)
		want := told(shadow, root, va)
		_, read, _ := Walk(shadow, root, va)
		other := slices.Clone(shadow)
		for k := range other {
			other[k] = byte(choose(&x, 256))
		}
		for _, at := range read {
			copy(other[at:at+4], shadow[at:at+4])
		}
		if got := told(other, root, va); got != want {
			t.Fatalf("Walk of %#x from %#x in %d bytes: %s, with other bytes %s", va, root, len(shadow), want, got)
		}
		if len(read) == 2 { // there is no word that is missing in one shadow and there in another
			changed++
			longer := append(slices.Clone(other), slices.Repeat([]byte{0x5a}, 100)...)
			end := int(max(read[0], read[1])) + 4
			if told(longer, root, va) != want || told(other[:end], root, va) != want {
				t.Fatalf("Walk of %#x from %#x in %d bytes: another answer in other lengths", va, root, len(shadow))
			}
		}
	}
	if changed < 500 {
		t.Errorf("%d walks read two words", changed)
	}
}

func TestEachByte(t *testing.T) { // Wa5: each byte of a shadow changed alone: only those that count of the two words change the walk
	whole := one(to("v", 2), to("vr", 5))
	want := told(whole, 0, oneAt)
	for at := range whole {
		for k := range 8 {
			other := slices.Clone(whole)
			other[at] ^= 1 << k
			counts := at == 17 || at == 161 || (at == 16 || at == 160) && k < 7
			if at == 16 && k >= 4 && k < 7 { // flags of a first entry that make no leaf of it
				counts = false
			}
			if got := told(other, 0, oneAt); (got != want) != counts {
				t.Errorf("Walk with bit %d of byte %d changed: %s", k, at, got)
			}
		}
	}
}

func TestNewMemory(t *testing.T) { // R3: what is answered shares no memory with what was handed in, nor with another answer
	shadow := tables()
	before := slices.Clone(shadow)
	_, read, _ := Walk(shadow, 64, 0)
	_, again, _ := Walk(shadow, 64, 0)
	for k := range read[:cap(read)] {
		read[:cap(read)][k] = 0xdeadbeef
	}
	if !slices.Equal(again, []uint32{64, 128}) {
		t.Errorf("a list of addresses is shared: %d", again)
	}
	_, short, _ := Walk(shadow, 64, 2048)
	_, long, _ := Walk(shadow, 64, 0)
	short = append(short, 1, 2, 3)
	if !slices.Equal(long, []uint32{64, 128}) || short[0] != 72 {
		t.Errorf("a list of addresses is shared: %d", long)
	}
	names, others := Map(shadow, 64), Map(shadow, 64)
	for k := range names[:cap(names)] {
		names[:cap(names)][k] = api.Name{Text: "spoilt"}
	}
	if len(others) != 9 || others[0] != (api.Name{Text: "r-----", Val: 9}) || fmt.Sprint(Map(shadow, 64)) != fmt.Sprint(others) {
		t.Errorf("a list of names is shared: %v", others)
	}
	if !slices.Equal(shadow, before) {
		t.Error("the shadow is another one")
	}
}

func TestAgain(t *testing.T) { // R4: an answer hangs on the arguments alone, whatever was called ahead of it
	shadows := [][]byte{tables(), every(2048, 64, 4), one(to("v", 2), to("vrwxutd", 1)), nil}
	answers := map[string]string{}
	for range 3 {
		for k, shadow := range shadows {
			for _, root := range []uint32{0, 64} {
				for _, va := range []uint32{0, 64, oneAt, 0x3fff, 0x4000} {
					for access := range 5 {
						addr, cause := Trans(paged(root), shadow, va, access)
						call := fmt.Sprint(k, root, va, access)
						answer := fmt.Sprint(addr, cause, told(shadow, root, va), Fault(access), len(Map(shadow, root)))
						if old, ok := answers[call]; ok && old != answer {
							t.Fatalf("%s: %s, at first %s", call, answer, old)
						}
						answers[call] = answer
					}
				}
			}
		}
	}
}
