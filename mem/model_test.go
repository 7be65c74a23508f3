package mem

import (
	"bytes"
	"encoding/binary"
	"fmt"
	"math"
	"math/big"
	"slices"
	"sort"
	"testing"

	"cotterel/api"
)

// memory is n bytes, none of which is 0 and no two neighbours of which are alike.
func memory(n int) []byte {
	m := make([]byte, n)
	for k := range m {
		m[k] = byte(1 + (k*7+k/256*31)%255)
	}
	return m
}

// valid is the numbers of bytes of valid memory, counted up.
func valid() map[int]bool {
	are := map[int]bool{}
	for n := 64; n <= 16384; n += 64 {
		are[n] = true
	}
	return are
}

// wantCheck is what Check must return, by numbers without bounds.
func wantCheck(m []byte, addr uint32, size int) int {
	if !slices.Contains([]int{1, 2, 4}, size) {
		return api.TBus
	}
	end := new(big.Int).Add(new(big.Int).SetUint64(uint64(addr)), big.NewInt(int64(size)))
	if end.Cmp(big.NewInt(int64(len(m)))) > 0 {
		return api.TBus
	}
	return api.TNone
}

// wantRead is what Read must return; the number is read as four bytes of which the highest may be missing.
func wantRead(m []byte, addr uint32, size int) (uint32, int) {
	if c := wantCheck(m, addr, size); c != api.TNone {
		return 0, c
	}
	four := append(slices.Clone(m[addr:][:size]), 0, 0, 0)
	return binary.LittleEndian.Uint32(four), api.TNone
}

// wantWrite is what Write must return, put together from what stands ahead of the location, the bytes, and what stands behind it.
func wantWrite(m []byte, addr uint32, size int, v uint32) ([]byte, int) {
	if c := wantCheck(m, addr, size); c != api.TNone {
		return nil, c
	}
	word := binary.LittleEndian.AppendUint32(nil, v)
	return slices.Concat(m[:addr], word[:size], m[int(addr)+size:]), api.TNone
}

// wantDiff is what Diff must return: of each index and its byte those that do not stand in both.
func wantDiff(a, b []byte) []int {
	type place struct {
		index int
		value byte
	}
	count := map[place]int{}
	for _, m := range [][]byte{a, b} {
		for k, x := range m {
			count[place{k, x}]++
		}
	}
	are := map[int]bool{}
	for p, n := range count {
		if n == 1 {
			are[p.index] = true
		}
	}
	var l []int
	for k := range are {
		l = append(l, k)
	}
	sort.Ints(l)
	return l
}

// kept hands out memory that has bytes behind its end, and a call that tells whether all of these are as they were; a nil list stays one.
func kept(m []byte) ([]byte, func() bool) {
	if m == nil {
		return nil, func() bool { return true }
	}
	whole := append(slices.Clone(m), bytes.Repeat([]byte{0xee}, 64)...)
	before := slices.Clone(whole)
	return whole[:len(m)], func() bool { return bytes.Equal(whole, before) }
}

// call is a call in short, to tell which one failed.
func call(m []byte, addr uint32, size int) string {
	return fmt.Sprintf("%d bytes, address %d, size %d", len(m), addr, size)
}

// check holds Check, Read and Write at one location against the model, and that they leave what they are given as it is.
func check(t *testing.T, m []byte, addr uint32, size int, v uint32) {
	t.Helper()
	given, same := kept(m)
	if got, want := Check(given, addr, size), wantCheck(m, addr, size); got != want {
		t.Fatalf("Check of %s: %d, want %d", call(m, addr, size), got, want)
	}
	number, cause := Read(given, addr, size)
	if want, wantCause := wantRead(m, addr, size); number != want || cause != wantCause {
		t.Fatalf("Read of %s: %#x, %d, want %#x, %d", call(m, addr, size), number, cause, want, wantCause)
	}
	written, cause := Write(given, addr, size, v)
	want, wantCause := wantWrite(m, addr, size, v)
	if !bytes.Equal(written, want) || cause != wantCause || (want == nil && written != nil) {
		t.Fatalf("Write of %#x, %s: %.80x, %d, want %.80x, %d", v, call(m, addr, size), written, cause, want, wantCause)
	}
	if !same() {
		t.Fatalf("%s, %#x: what was handed in is another one", call(m, addr, size), v)
	}
	apart(t, given, written, same)
}

// apart is that what Write returned shares no memory with what it was given: neither bytes nor what stands behind them.
func apart(t *testing.T, given, written []byte, same func() bool) {
	t.Helper()
	for k := range written[:cap(written)] {
		written[:cap(written)][k] ^= 0xff
	}
	if !same() {
		t.Fatalf("memory of %d bytes is shared with what Write returned", len(given))
	}
}

// differ holds Diff of two memories, both ways round, against the indices that it must return.
func differ(t *testing.T, a, b []byte, want []int) {
	t.Helper()
	for _, pair := range [][2][]byte{{a, b}, {b, a}} {
		one, sameOne := kept(pair[0])
		other, sameOther := kept(pair[1])
		if got := Diff(one, other); !slices.Equal(got, want) {
			t.Fatalf("Diff of %.80x, %.80x: %v, want %v", one, other, got, want)
		}
		if !sameOne() || !sameOther() {
			t.Fatalf("Diff of %.80x, %.80x: what was handed in is another one", one, other)
		}
	}
}

// sizes is every size that there is, and wrong ones, also such as are right if only their lowest 32 bits are looked at.
var sizes = []int{
	1, 2, 4, 0, 3, 5, 6, 7, 8, 16, 63, 64, 65, 100, -1, -2, -3, -4, -8,
	math.MinInt, math.MinInt + 1, math.MinInt + 4, math.MinInt32, math.MaxInt, math.MaxInt - 1, math.MaxInt32, math.MaxUint32,
	1 << 32, 1<<32 + 1, 1<<32 + 2, 1<<32 + 4, 1<<31 + 4, -1<<32 + 1, -1<<32 + 4, 1<<62 + 4, -1<<62 + 2, 1<<8 + 1, 1<<16 + 2,
}

// lengths is numbers of bytes of memory, valid and not.
var lengths = []int{0, 1, 2, 3, 4, 5, 7, 8, 63, 64, 65, 96, 100, 127, 128, 192, 255, 256, 257, 16320, 16384, 16385, 16388, 16448, 65536, 65541}

// addresses is places in memory of n bytes and beyond it: its beginning, each place around its end, the ends of lines and pages, and numbers whose sum with a size wraps around.
func addresses(n int) []uint32 {
	l := []uint32{0, 1, 2, 3, 4, 5, 6, 7, 8, 13, 14, 15, 16, 17, 31, 61, 62, 63, 64, 65, 66, 67, 68, 255, 256, 1000, 1 << 14, 1<<16 + 1}
	for k := n - 9; k <= n+9; k++ {
		l = append(l, uint32(k))
	}
	for k := range uint32(6) {
		l = append(l, math.MaxUint32-k, 1<<31-2+k)
	}
	slices.Sort(l)
	return slices.Compact(l)
}

// choose is a number below n, and another one each time.
func choose(x *uint64, n int) int {
	*x = *x*6364136223846793005 + 1442695040888963407
	return int(*x>>33) % n
}
