package walk

import (
	"bytes"
	"fmt"
	"math"
	"slices"
	"strings"
	"testing"

	"cotterel/api"
)

// visit is one entry that the model read: where it stands, its flags as letters, valid first, and its page.
type visit struct {
	at   uint64
	set  string
	page int
}

// look is the entry at an address, false if four bytes do not stand there: bit 7 and the upper half of the word are not looked at.
func look(shadow []byte, at uint64) (visit, bool) {
	if at+3 >= uint64(len(shadow)) {
		return visit{}, false
	}
	v := visit{at: at, page: int(shadow[at+1])}
	low := shadow[at]
	for _, letter := range "vrwxutd" {
		if low%2 == 1 {
			v.set += string(letter)
		}
		low /= 2
	}
	return v, true
}

// leads reports whether an entry is one of a further table.
func (v visit) leads() bool {
	return strings.Contains(v.set, "v") && !strings.ContainsAny(v.set, "rwx")
}

// gives reports whether an entry is one of a page.
func (v visit) gives() bool {
	return strings.Contains(v.set, "v") && strings.ContainsAny(v.set, "rwx")
}

// trace is all entries that a walk reads: a virtual address is two digits of base 16 and a rest below 64.
func trace(shadow []byte, root, va uint32) []visit {
	high, low := uint64(va)/1024, uint64(va)/64%16
	if high >= 16 {
		return nil
	}
	first, ok := look(shadow, (uint64(root)+4*high)%(1<<32))
	if !ok {
		return nil
	}
	if first.leads() {
		if second, ok := look(shadow, 64*uint64(first.page)+4*low); ok {
			return []visit{first, second}
		}
	}
	return []visit{first}
}

// number is the flags of an entry as a number.
func (v visit) number() uint32 {
	sum := uint32(0)
	for k, letter := range "vrwxutd" {
		if strings.ContainsRune(v.set, letter) {
			sum += 1 << k
		}
	}
	return sum
}

// wantWalk is what Walk must return.
func wantWalk(shadow []byte, root, va uint32) (api.Pte, []uint32, bool) {
	l := trace(shadow, root, va)
	var read []uint32
	for _, v := range l {
		read = append(read, uint32(v.at))
	}
	if len(l) == 2 && l[1].gives() {
		return api.Pte{Bits: l[1].number(), Page: l[1].page}, read, true
	}
	return api.Pte{}, read, false
}

// wantFault is what Fault must return.
func wantFault(access int) int {
	causes := map[int]int{1: 1, 2: 4, 3: 6}
	if cause, ok := causes[access]; ok {
		return cause
	}
	return 9
}

// wantPaged is what Paged must return: the status is odd in kernel mode, and SPaged is its bit of 16.
func wantPaged(a api.Arch) bool {
	return a.C[0]%2 == 0 && a.C[0]/16%2 == 1
}

// wantTrans is what Trans must return.
func wantTrans(a api.Arch, shadow []byte, va uint32, access int) (uint32, int) {
	if !wantPaged(a) {
		return va, 0
	}
	needs := map[int]string{1: "vxut", 2: "vrut", 3: "vwutd"}[access]
	l := trace(shadow, a.C[5], va)
	if needs == "" || len(l) < 2 {
		return 0, wantFault(access)
	}
	for _, letter := range needs {
		if !strings.ContainsRune(l[1].set, letter) {
			return 0, wantFault(access)
		}
	}
	return uint32(l[1].page)*64 + va%64, 0
}

// wantMap is what Map must return.
func wantMap(shadow []byte, root uint32) []api.Name {
	var names []api.Name
	for n := range uint32(256) {
		l := trace(shadow, root, n*64)
		if len(l) < 2 || !l[1].gives() {
			continue
		}
		var text strings.Builder
		for _, letter := range "rwxutd" {
			if !strings.ContainsRune(l[1].set, letter) {
				letter = '-'
			}
			text.WriteRune(letter)
		}
		names = append(names, api.Name{Text: text.String(), Val: n*65536 + uint32(l[1].page)})
	}
	return names
}

// kept hands out a shadow that has bytes behind its end, and a call that tells whether all of these are as they were; a nil list stays one.
func kept(shadow []byte) ([]byte, func() bool) {
	if shadow == nil {
		return nil, func() bool { return true }
	}
	whole := append(slices.Clone(shadow), bytes.Repeat([]byte{0x1f}, 64)...)
	before := slices.Clone(whole)
	return whole[:len(shadow)], func() bool { return bytes.Equal(whole, before) }
}

// checkWalk holds Walk against the model.
func checkWalk(t *testing.T, shadow []byte, root, va uint32) {
	t.Helper()
	p, read, ok := Walk(shadow, root, va)
	wantP, wantRead, want := wantWalk(shadow, root, va)
	if p != wantP || !slices.Equal(read, wantRead) || ok != want {
		t.Fatalf("Walk of %#x from %#x in %d bytes: %#x, %#x, %v, want %#x, %#x, %v", va, root, len(shadow), p, read, ok, wantP, wantRead, want)
	}
}

// checkTrans holds Trans, and the calls that it follows, against the model.
func checkTrans(t *testing.T, a api.Arch, shadow []byte, va uint32, access int) {
	t.Helper()
	if got, want := Fault(access), wantFault(access); got != want {
		t.Fatalf("Fault of %d: %d, want %d", access, got, want)
	}
	if got, want := Paged(a), wantPaged(a); got != want {
		t.Fatalf("Paged of %v: %v, want %v", a, got, want)
	}
	addr, cause := Trans(a, shadow, va, access)
	wantAddr, wantCause := wantTrans(a, shadow, va, access)
	if addr != wantAddr || cause != wantCause {
		t.Fatalf("Trans of %#x, access %d, core %v, %d bytes: %#x, %d, want %#x, %d", va, access, a, len(shadow), addr, cause, wantAddr, wantCause)
	}
}

// checkMap holds Map against the model.
func checkMap(t *testing.T, shadow []byte, root uint32) []api.Name {
	t.Helper()
	got, want := Map(shadow, root), wantMap(shadow, root)
	if !slices.Equal(got, want) {
		t.Fatalf("Map from %#x in %d bytes: %v, want %v", root, len(shadow), got, want)
	}
	return got
}

// put stores words from a place on, the least significant byte first, as far as the shadow reaches.
func put(shadow []byte, at int, words ...uint32) {
	for _, w := range words {
		for range 4 {
			if at >= 0 && at < len(shadow) {
				shadow[at] = byte(w % 256)
			}
			w /= 256
			at++
		}
	}
}

// to is the word of an entry with flags, as letters, and a page.
func to(set string, page uint32) uint32 {
	return visit{set: set}.number() + page*256
}

// every is a shadow of n bytes in which all entries are of the user's pages, which may be read and written, but for 16 entries from the root on, which lead to tables from page first on.
func every(n, root int, first uint32) []byte {
	shadow := make([]byte, n)
	for at := 0; at < n; at += 4 {
		put(shadow, at, to("vrwutd", uint32(at/4*37+11)%256))
	}
	for k := range 16 {
		put(shadow, root+4*k, to("v", first+uint32(k)))
	}
	return shadow
}

// one is a shadow of 256 bytes of 0, but for the entry at 16, which leads to the table at 128, and that at 160: address 4*1024 + 8*64 goes by these two from root 0.
func one(first, second uint32) []byte {
	shadow := make([]byte, 256)
	put(shadow, 16, first)
	put(shadow, 160, second)
	return shadow
}

// oneAt is the address that goes by the two entries of one.
const oneAt = 4*1024 + 8*64

// paged is a core in user mode whose addresses are virtual, with a root.
func paged(root uint32) api.Arch {
	var a api.Arch
	a.C[0], a.C[5] = 16, root
	return a
}

// full is a core no two parts of which are alike, with a status and a root.
func full(status, root uint32) api.Arch {
	a := api.Arch{PC: 0xa1b2c3d4, Halt: true}
	for k := range a.R {
		a.R[k] = 0x9e3779b9 * uint32(k+3)
	}
	for k := range a.C {
		a.C[k] = 0xf8765431 - 0x01234567*uint32(k)
	}
	a.C[0], a.C[5] = status, root
	return a
}

// accesses is every access that there is, and wrong ones, also such as are right if only their lowest bits are looked at.
func accesses() []int {
	l := []int{math.MaxInt, math.MaxInt - 1, math.MinInt, math.MinInt + 1, math.MaxInt32, math.MinInt32, math.MaxUint32, 100, -100, 12345}
	for d := -5; d <= 12; d++ {
		l = append(l, d)
	}
	for k := 4; k < 63; k++ {
		for d := -1; d <= 3; d++ {
			l = append(l, 1<<k+d, -1<<k+d)
		}
	}
	for d := range 4 {
		l = append(l, math.MinInt+d)
	}
	slices.Sort(l)
	return slices.Compact(l)
}

// numbers is numbers of 32 bits: each bit alone, all but each, runs of the lowest and of the highest, and some without a rule.
func numbers() []uint32 {
	l := []uint32{0, math.MaxUint32, 0x12345678, 0x87654321, 0xaaaaaaaa, 0x55555555, 0xf0f0f0f0, 0x0321, 0x1fff, 0x2a6b}
	for k := range 32 {
		l = append(l, 1<<k, ^uint32(1<<k), 1<<k-1, ^uint32(1<<k-1))
	}
	slices.Sort(l)
	return slices.Compact(l)
}

// sets is each set of flags that there is, as letters.
func sets() []string {
	var l []string
	for n := range 128 {
		set := ""
		for k, letter := range "vrwxutd" {
			if n>>k%2 == 1 {
				set += string(letter)
			}
		}
		l = append(l, set)
	}
	return l
}

// choose is a number below n, and another one each time.
func choose(x *uint64, n int) int {
	*x = *x*6364136223846793005 + 1442695040888963407
	return int(*x>>33) % n
}

// anyEntry is the word of an entry: one that leads to a table of the first n pages, one that gives a page, or any.
func anyEntry(x *uint64, n int) uint32 {
	noise := uint32(choose(x, 1<<16))<<16 + uint32(choose(x, 2))<<7
	page := uint32(choose(x, n+2)) % 256
	switch choose(x, 5) {
	case 0, 1:
		return noise + to("v", page) + uint32(choose(x, 8))<<4
	case 2:
		return noise + uint32(choose(x, 1<<16))
	}
	return noise | to("vut", page) | uint32(choose(x, 64))<<1
}

// anyShadow is a shadow of any number of bytes, many of whose words are entries that walks go by.
func anyShadow(x *uint64) []byte {
	n := 200 + choose(x, 1000)
	if choose(x, 8) == 0 {
		n = choose(x, 200)
	}
	shadow := make([]byte, n)
	for at := choose(x, 32) / 31; at < n; at += 4 {
		put(shadow, at, anyEntry(x, n/64))
	}
	return shadow
}

// anyRoot is where a table may begin: mostly inside of n bytes, now and then around their end or close to 2^32.
func anyRoot(x *uint64, n int) uint32 {
	switch choose(x, 20) {
	case 0:
		return uint32(choose(x, n+80))
	case 1:
		return math.MaxUint32 - uint32(choose(x, 80))
	case 2:
		return uint32(choose(x, 1<<16))<<16 + uint32(choose(x, 1<<16))
	case 3:
		return uint32(n - 70 + choose(x, 80))
	}
	return uint32(choose(x, n/64+1)) * 64
}

// anyAddress is a virtual address, now and then one beyond 2^14.
func anyAddress(x *uint64) uint32 {
	va := uint32(choose(x, 1<<14))
	switch choose(x, 16) {
	case 0:
		return va + uint32(choose(x, 1<<16))<<14
	case 1:
		return va + 1<<14
	}
	return va
}

// told is a walk's answer as a text.
func told(shadow []byte, root, va uint32) string {
	p, read, ok := Walk(shadow, root, va)
	return fmt.Sprint(p, read, ok)
}
