package mem

import (
	"bytes"
	"math"
	"slices"
	"testing"

	"cotterel/api"
)

func TestExamples(t *testing.T) { // Me1, Me2: the chapter's examples
	m, cause := Write(make([]byte, 64), 4, 2, 0x0102)
	want := append([]byte{0, 0, 0, 0, 2, 1}, make([]byte, 58)...)
	if !bytes.Equal(m, want) || cause != api.TNone {
		t.Errorf("Write: %x, %d", m, cause)
	}
	if got := Check(make([]byte, 64), 62, 4); got != api.TBus {
		t.Errorf("Check: %d", got)
	}
}

func TestRight(t *testing.T) { // Me1: numbers of bytes written out
	for n, want := range map[int]bool{
		0: false, 1: false, 16: false, 32: false, 62: false, 63: false, 64: true, 65: false, 68: false, 80: false, 96: false, 127: false, 128: true, 129: false, 192: true, 200: false, 256: true, 320: true,
		8192: true, 16000: true, 16319: false, 16320: true, 16321: false, 16368: false, 16383: false, 16384: true, 16385: false, 16400: false, 16448: false, 16512: false, 32768: false, 65536: false, 65600: false, 1 << 20: false,
	} {
		if got := Right(memory(n)); got != want {
			t.Errorf("Right of %d bytes: %v", n, got)
		}
	}
	if Right(nil) || Right([]byte{}) {
		t.Error("Right of no bytes")
	}
}

func TestRights(t *testing.T) { // Me1: every number of bytes, whatever they are and whatever stands behind them
	are := valid()
	for _, m := range [][]byte{make([]byte, 40000), bytes.Repeat([]byte{255}, 40000), memory(40000)} {
		for n := range m {
			if Right(m[:n]) != are[n] || Right(m[:n:n]) != are[n] {
				t.Errorf("Right of %d bytes: not %v", n, are[n])
			}
		}
	}
	if len(are) != 256 {
		t.Errorf("%d numbers of bytes", len(are))
	}
}

func TestCheck(t *testing.T) { // Me1: locations written out
	for _, c := range []struct {
		bytes int
		addr  uint32
		size  int
		want  int
	}{
		{64, 0, 1, api.TNone}, {64, 0, 2, api.TNone}, {64, 0, 4, api.TNone}, {64, 63, 1, api.TNone}, {64, 62, 2, api.TNone}, {64, 60, 4, api.TNone}, {64, 1, 2, api.TNone}, {64, 1, 4, api.TNone}, {64, 3, 4, api.TNone}, {64, 15, 2, api.TNone}, {64, 13, 4, api.TNone},
		{64, 64, 1, api.TBus}, {64, 63, 2, api.TBus}, {64, 61, 4, api.TBus}, {64, 62, 4, api.TBus}, {64, 63, 4, api.TBus}, {64, 64, 2, api.TBus}, {64, 64, 4, api.TBus}, {64, 65, 1, api.TBus}, {64, 128, 1, api.TBus},
		{64, 0, 0, api.TBus}, {64, 0, 3, api.TBus}, {64, 0, 5, api.TBus}, {64, 0, 8, api.TBus}, {64, 0, 16, api.TBus}, {64, 0, 64, api.TBus}, {64, 0, -1, api.TBus}, {64, 8, -4, api.TBus}, {64, 64, 0, api.TBus}, {64, 100, -50, api.TBus},
		{64, 0, math.MaxInt, api.TBus}, {64, 0, math.MinInt, api.TBus}, {64, 0, 1<<32 + 4, api.TBus}, {64, 0, 1<<32 + 1, api.TBus}, {64, 0, 1 << 32, api.TBus}, {64, 63, math.MaxInt, api.TBus}, {64, math.MaxUint32, math.MaxInt, api.TBus}, {64, 5, math.MinInt + 1, api.TBus},
		{64, 1 << 31, 1, api.TBus}, {64, 1<<31 + 4, 4, api.TBus}, {64, math.MaxUint32 - 3, 4, api.TBus}, {64, math.MaxUint32 - 2, 4, api.TBus}, {64, math.MaxUint32 - 1, 4, api.TBus}, {64, math.MaxUint32, 4, api.TBus}, {64, math.MaxUint32 - 3, 1, api.TBus},
		{64, math.MaxUint32 - 1, 2, api.TBus}, {64, math.MaxUint32, 2, api.TBus}, {64, math.MaxUint32, 1, api.TBus}, {64, 1 << 16, 1, api.TBus}, {64, 1 << 8, 1, api.TBus}, {64, 1<<16 + 4, 4, api.TBus}, {64, 1<<8 + 4, 4, api.TBus},
		{0, 0, 1, api.TBus}, {0, 0, 2, api.TBus}, {0, 0, 4, api.TBus}, {0, 0, 0, api.TBus}, {0, math.MaxUint32, 1, api.TBus}, {0, math.MaxUint32 - 3, 4, api.TBus},
		{1, 0, 1, api.TNone}, {1, 0, 2, api.TBus}, {1, 0, 4, api.TBus}, {1, 1, 1, api.TBus}, {2, 0, 2, api.TNone}, {2, 1, 1, api.TNone}, {2, 1, 2, api.TBus}, {3, 1, 2, api.TNone}, {3, 2, 2, api.TBus}, {3, 0, 4, api.TBus}, {3, 2, 1, api.TNone}, {3, 3, 1, api.TBus},
		{4, 0, 4, api.TNone}, {4, 1, 4, api.TBus}, {5, 1, 4, api.TNone}, {63, 62, 1, api.TNone}, {63, 61, 2, api.TNone}, {63, 59, 4, api.TNone}, {63, 60, 4, api.TBus}, {63, 63, 1, api.TBus}, {100, 96, 4, api.TNone}, {100, 97, 4, api.TBus}, {100, 99, 1, api.TNone}, {100, 100, 1, api.TBus},
		{16384, 16380, 4, api.TNone}, {16384, 16381, 4, api.TBus}, {16384, 16383, 1, api.TNone}, {16384, 16384, 1, api.TBus}, {16448, 16384, 4, api.TNone}, {16448, 16444, 4, api.TNone}, {16448, 16445, 4, api.TBus}, {70000, 69996, 4, api.TNone}, {70000, 69997, 4, api.TBus}, {70000, 65536, 2, api.TNone},
	} {
		if got := Check(memory(c.bytes), c.addr, c.size); got != c.want {
			t.Errorf("Check of %d bytes, address %d, size %d: %d, want %d", c.bytes, c.addr, c.size, got, c.want)
		}
	}
	if Check(nil, 0, 1) != api.TBus || Check(nil, math.MaxUint32, 4) != api.TBus {
		t.Error("Check of a nil list")
	}
}

func TestLineOf(t *testing.T) { // Me1: addresses written out, and the borders of all lines in a row
	for _, c := range [][2]uint32{
		{0, 0}, {1, 0}, {15, 0}, {16, 1}, {17, 1}, {31, 1}, {32, 2}, {63, 3}, {64, 4}, {255, 15}, {256, 16}, {16383, 1023}, {16384, 1024}, {1 << 20, 1 << 16}, {0x12345678, 0x01234567},
		{1<<31 - 1, 0x07ffffff}, {1 << 31, 0x08000000}, {0xffffffef, 0x0ffffffe}, {0xfffffff0, 0x0fffffff}, {math.MaxUint32, 0x0fffffff},
	} {
		if got := LineOf(c[0]); got != c[1] {
			t.Errorf("LineOf %#x: %#x, want %#x", c[0], got, c[1])
		}
	}
	for line := range uint32(5000) {
		for k := range uint32(16) {
			if LineOf(16*line+k) != line || LineOf(math.MaxUint32-16*line-k) != 1<<28-1-line {
				t.Fatalf("LineOf of byte %d of line %d", k, line)
			}
		}
	}
}

func TestRead(t *testing.T) { // Me2: numbers written out, each byte of them another one
	m := make([]byte, 64)
	copy(m, []byte{0x11, 0x22, 0x33, 0x44, 0x55, 0x86, 0x97, 0xf8})
	copy(m[60:], []byte{0xfa, 0xfb, 0xfc, 0xfd})
	for _, c := range []struct {
		addr  uint32
		size  int
		want  uint32
		cause int
	}{
		{0, 1, 0x11, api.TNone}, {0, 2, 0x2211, api.TNone}, {0, 4, 0x44332211, api.TNone}, {1, 1, 0x22, api.TNone}, {1, 2, 0x3322, api.TNone}, {1, 4, 0x55443322, api.TNone}, {2, 4, 0x86554433, api.TNone}, {3, 4, 0x97865544, api.TNone}, {4, 4, 0xf8978655, api.TNone},
		{5, 1, 0x86, api.TNone}, {7, 1, 0xf8, api.TNone}, {6, 2, 0xf897, api.TNone}, {7, 2, 0x00f8, api.TNone}, {7, 4, 0x000000f8, api.TNone}, {8, 4, 0, api.TNone}, {59, 4, 0xfcfbfa00, api.TNone}, {57, 4, 0xfa000000, api.TNone},
		{60, 4, 0xfdfcfbfa, api.TNone}, {60, 2, 0xfbfa, api.TNone}, {61, 2, 0xfcfb, api.TNone}, {62, 2, 0xfdfc, api.TNone}, {63, 1, 0xfd, api.TNone}, {60, 1, 0xfa, api.TNone},
		{61, 4, 0, api.TBus}, {62, 4, 0, api.TBus}, {63, 4, 0, api.TBus}, {63, 2, 0, api.TBus}, {64, 1, 0, api.TBus}, {0, 3, 0, api.TBus}, {0, 0, 0, api.TBus}, {0, -1, 0, api.TBus}, {0, 8, 0, api.TBus}, {4, -4, 0, api.TBus}, {0, 1<<32 + 4, 0, api.TBus},
		{math.MaxUint32, 1, 0, api.TBus}, {math.MaxUint32, 2, 0, api.TBus}, {math.MaxUint32, 4, 0, api.TBus}, {math.MaxUint32 - 3, 4, 0, api.TBus}, {1 << 31, 4, 0, api.TBus}, {1 << 16, 4, 0, api.TBus},
	} {
		if got, cause := Read(m, c.addr, c.size); got != c.want || cause != c.cause {
			t.Errorf("Read of address %d, size %d: %#x, %d, want %#x, %d", c.addr, c.size, got, cause, c.want, c.cause)
		}
	}
}

func TestWrite(t *testing.T) { // Me2: memories written out; the high bytes of the number that do not belong to the size are not stored
	for _, c := range []struct {
		m     []byte
		addr  uint32
		size  int
		v     uint32
		want  []byte
		cause int
	}{
		{[]byte{1, 2, 3, 4, 5, 6}, 0, 4, 0xaabbccdd, []byte{0xdd, 0xcc, 0xbb, 0xaa, 5, 6}, api.TNone}, {[]byte{1, 2, 3, 4, 5, 6}, 1, 4, 0xaabbccdd, []byte{1, 0xdd, 0xcc, 0xbb, 0xaa, 6}, api.TNone}, {[]byte{1, 2, 3, 4, 5, 6}, 2, 4, 0xaabbccdd, []byte{1, 2, 0xdd, 0xcc, 0xbb, 0xaa}, api.TNone},
		{[]byte{1, 2, 3, 4, 5, 6}, 0, 2, 0xaabbccdd, []byte{0xdd, 0xcc, 3, 4, 5, 6}, api.TNone}, {[]byte{1, 2, 3, 4, 5, 6}, 3, 2, 0xaabbccdd, []byte{1, 2, 3, 0xdd, 0xcc, 6}, api.TNone}, {[]byte{1, 2, 3, 4, 5, 6}, 4, 2, 0xaabbccdd, []byte{1, 2, 3, 4, 0xdd, 0xcc}, api.TNone},
		{[]byte{1, 2, 3, 4, 5, 6}, 0, 1, 0xaabbccdd, []byte{0xdd, 2, 3, 4, 5, 6}, api.TNone}, {[]byte{1, 2, 3, 4, 5, 6}, 3, 1, 0xaabbccdd, []byte{1, 2, 3, 0xdd, 5, 6}, api.TNone}, {[]byte{1, 2, 3, 4, 5, 6}, 5, 1, 0xaabbccdd, []byte{1, 2, 3, 4, 5, 0xdd}, api.TNone},
		{[]byte{1, 2, 3, 4, 5, 6}, 1, 4, 0, []byte{1, 0, 0, 0, 0, 6}, api.TNone}, {[]byte{1, 2, 3, 4, 5, 6}, 1, 4, 7, []byte{1, 7, 0, 0, 0, 6}, api.TNone}, {[]byte{1, 2, 3, 4, 5, 6}, 1, 2, 0xffff0000, []byte{1, 0, 0, 4, 5, 6}, api.TNone}, {[]byte{1, 2, 3, 4, 5, 6}, 1, 1, 0xffffff00, []byte{1, 0, 3, 4, 5, 6}, api.TNone},
		{[]byte{9}, 0, 1, 0x1234, []byte{0x34}, api.TNone}, {[]byte{9, 9}, 0, 2, 0x1234, []byte{0x34, 0x12}, api.TNone}, {[]byte{1, 2, 3, 4, 5, 6}, 1, 2, 0x0302, []byte{1, 2, 3, 4, 5, 6}, api.TNone}, {[]byte{0, 0, 0}, 1, 2, math.MaxUint32, []byte{0, 255, 255}, api.TNone},
		{[]byte{1, 2, 3, 4, 5, 6}, 3, 4, 7, nil, api.TBus}, {[]byte{1, 2, 3, 4, 5, 6}, 5, 2, 7, nil, api.TBus}, {[]byte{1, 2, 3, 4, 5, 6}, 6, 1, 7, nil, api.TBus}, {[]byte{1, 2, 3, 4, 5, 6}, 0, 0, 7, nil, api.TBus}, {[]byte{1, 2, 3, 4, 5, 6}, 0, 3, 7, nil, api.TBus}, {[]byte{1, 2, 3, 4, 5, 6}, 0, 5, 7, nil, api.TBus},
		{[]byte{1, 2, 3, 4, 5, 6}, 0, -1, 7, nil, api.TBus}, {[]byte{1, 2, 3, 4, 5, 6}, math.MaxUint32, 4, 7, nil, api.TBus}, {[]byte{1, 2, 3, 4, 5, 6}, math.MaxUint32 - 3, 4, 7, nil, api.TBus}, {[]byte{1, 2, 3, 4, 5, 6}, 1 << 31, 1, 7, nil, api.TBus}, {[]byte{1, 2, 3, 4, 5, 6}, 0, 1<<32 + 1, 7, nil, api.TBus},
		{nil, 0, 1, 7, nil, api.TBus}, {nil, 0, 0, 7, nil, api.TBus}, {[]byte{}, 0, 4, 7, nil, api.TBus}, {[]byte{9}, 0, 2, 7, nil, api.TBus}, {[]byte{9}, 0, 4, 7, nil, api.TBus}, {[]byte{9}, 1, 1, 7, nil, api.TBus},
	} {
		got, cause := Write(c.m, c.addr, c.size, c.v)
		if !bytes.Equal(got, c.want) || cause != c.cause || (c.want == nil && got != nil) {
			t.Errorf("Write of %x, address %d, size %d, %#x: %x, %d, want %x, %d", c.m, c.addr, c.size, c.v, got, cause, c.want, c.cause)
		}
	}
}

func TestLocations(t *testing.T) { // Me1, Me2: memories, addresses and sizes, right and wrong, each with each
	memories := [][]byte{nil}
	for _, n := range lengths {
		memories = append(memories, memory(n))
	}
	for _, m := range memories {
		for _, addr := range addresses(len(m)) {
			for _, size := range sizes {
				check(t, m, addr, size, 0xa1b2c3d4)
			}
		}
	}
}

func TestPlaces(t *testing.T) { // Me1, Me2: every place of a memory of some pages, and reading at every place of the greatest
	m := memory(192)
	for addr := range uint32(200) {
		for _, size := range []int{1, 2, 4} {
			for _, v := range []uint32{0, 1, 0x80, 0xff, 0x100, 0x8000, 0xffff, 0x10000, 0x01020304, 0x80000000, 0xf1e2d3c4, math.MaxUint32} {
				check(t, m, addr, size, v)
			}
		}
	}
	great := memory(api.MaxMem)
	for addr := range uint32(api.MaxMem + 8) {
		for _, size := range []int{1, 2, 4} {
			got, cause := Read(great, addr, size)
			if want, wantCause := wantRead(great, addr, size); got != want || cause != wantCause || Check(great, addr, size) != wantCause {
				t.Fatalf("Read of %s: %#x, %d, want %#x, %d", call(great, addr, size), got, cause, want, wantCause)
			}
		}
	}
}

func TestBehindEnd(t *testing.T) { // Me1, Me2: what stands behind a memory's end in its list is not part of it
	whole := memory(128)
	m := whole[:64]
	for _, addr := range []uint32{60, 61, 62, 63, 64, 65, 100, 124, 127} {
		for _, size := range []int{1, 2, 4} {
			want := api.TBus
			if int(addr)+size <= 64 {
				want = api.TNone
			}
			number, cause := Read(m, addr, size)
			written, writeCause := Write(m, addr, size, 0xffffffff)
			if Check(m, addr, size) != want || cause != want || writeCause != want {
				t.Errorf("%s: causes %d, %d, %d, want %d", call(m, addr, size), Check(m, addr, size), cause, writeCause, want)
			}
			if want == api.TBus && (number != 0 || written != nil) || want == api.TNone && len(written) != 64 {
				t.Errorf("%s: %#x, %x", call(m, addr, size), number, written)
			}
		}
	}
	if !bytes.Equal(whole, memory(128)) {
		t.Error("what stands behind the memory is another one")
	}
}

func TestNewMemory(t *testing.T) { // Me2: what Write returns is new each time, also where the number is stored already
	for _, n := range []int{1, 2, 3, 4, 5, 64, 100, 16384, 16448} {
		m := memory(n)
		before := slices.Clone(m)
		for _, size := range []int{1, 2, 4} {
			if size > n {
				continue
			}
			v, _ := Read(m, uint32(n-size), size)
			one, _ := Write(m, uint32(n-size), size, v)
			other, _ := Write(m, uint32(n-size), size, v)
			if !bytes.Equal(one, before) || !bytes.Equal(other, before) {
				t.Fatalf("%d bytes, size %d: what is stored already was written, and is another one", n, size)
			}
			for k := range one {
				one[k]++
			}
			if !bytes.Equal(m, before) || !bytes.Equal(other, before) {
				t.Fatalf("%d bytes, size %d: memory is shared", n, size)
			}
			clear(m)
			if !bytes.Equal(other, before) {
				t.Fatalf("%d bytes, size %d: what was returned changes with what was handed in", n, size)
			}
			copy(m, before)
		}
	}
}

func TestDiff(t *testing.T) { // Me3: memories written out, each both ways round
	for _, c := range []struct {
		a, b []byte
		want []int
	}{
		{nil, nil, nil}, {nil, []byte{}, nil}, {[]byte{}, []byte{}, nil}, {[]byte{7}, []byte{7}, nil}, {[]byte{1, 2, 3}, []byte{1, 2, 3}, nil}, {make([]byte, 64), make([]byte, 64), nil}, {memory(16384), memory(16384), nil}, {memory(20000), memory(20000), nil},
		{nil, []byte{0}, []int{0}}, {nil, []byte{5}, []int{0}}, {nil, []byte{0, 0, 0}, []int{0, 1, 2}}, {[]byte{}, []byte{1, 2}, []int{0, 1}}, {[]byte{1}, []byte{1, 0}, []int{1}}, {[]byte{1}, []byte{1, 1}, []int{1}}, {[]byte{1, 2}, []byte{1, 2, 3, 4}, []int{2, 3}},
		{[]byte{1}, []byte{2}, []int{0}}, {[]byte{0}, []byte{255}, []int{0}}, {[]byte{0}, []byte{128}, []int{0}}, {[]byte{1, 2, 3}, []byte{9, 2, 3}, []int{0}}, {[]byte{1, 2, 3}, []byte{1, 9, 3}, []int{1}}, {[]byte{1, 2, 3}, []byte{1, 2, 9}, []int{2}},
		{[]byte{1, 2, 3}, []byte{9, 2, 9}, []int{0, 2}}, {[]byte{1, 2, 3}, []byte{2, 3, 1}, []int{0, 1, 2}}, {[]byte{1, 2, 3}, []byte{3, 2, 1}, []int{0, 2}}, {[]byte{1, 2}, []byte{2, 1}, []int{0, 1}}, {[]byte{1, 2}, []byte{2, 2, 3}, []int{0, 2}}, {[]byte{1, 2, 3}, []byte{2, 3}, []int{0, 1, 2}},
		{[]byte{0, 0, 0, 5}, []byte{0, 0, 0}, []int{3}}, {[]byte{1, 0, 1, 0, 1}, []byte{0, 0, 0, 0, 0}, []int{0, 2, 4}}, {[]byte{1, 2, 3, 4}, []byte{1, 9}, []int{1, 2, 3}}, {[]byte{1, 2, 3, 4}, []byte{9}, []int{0, 1, 2, 3}},
	} {
		differ(t, c.a, c.b, c.want)
	}
}

func TestDiffs(t *testing.T) { // Me3: a difference at each place, at the first and the last, at all, and memories of other lengths
	m := memory(128)
	for k := range m {
		n := slices.Clone(m)
		n[k] ^= 0x10
		differ(t, m, n, []int{k})
		n[0] ^= 1
		n[127] ^= 1
		want := []int{0, k, 127}
		differ(t, m, n, slices.Compact(want))
	}
	for _, n := range lengths {
		all := make([]int, n)
		other := memory(n)
		for k := range all {
			all[k] = k
			other[k] ^= 0xff
		}
		differ(t, memory(n), other, all)
		differ(t, memory(n), nil, all)
		differ(t, memory(n), memory(n), nil)
		for _, less := range lengths {
			if less <= n {
				differ(t, memory(n), memory(n)[:less], all[less:])
			}
		}
	}
}

func TestDiffBehindEnd(t *testing.T) { // Me3: what stands behind a memory's end in its list is not part of it; lists are new
	whole := memory(64)
	differ(t, whole[:10], whole[:12], []int{10, 11})
	if got := Diff(whole[:10], whole[:12]); !slices.Equal(got, []int{10, 11}) {
		t.Errorf("Diff of two parts of one memory: %v", got)
	}
	if got := Diff(whole[:5], whole[1:6]); !slices.Equal(got, []int{0, 1, 2, 3, 4}) {
		t.Errorf("Diff of two parts of one memory, one behind the other: %v", got)
	}
	if got := Diff(whole, whole); len(got) != 0 {
		t.Errorf("Diff of a memory and itself: %v", got)
	}
	one, other := Diff(whole, nil), Diff(whole, nil)
	clear(one)
	if !slices.Equal(other, wantDiff(whole, nil)) {
		t.Error("two lists share memory")
	}
}

func TestReadBehindWrite(t *testing.T) { // Me4: what is read is what was written, at each size and place, and Diff names only bytes of the location
	lowest := map[int]uint32{1: 0xff, 2: 0xffff, 4: 0xffffffff}
	for _, n := range []int{1, 3, 4, 63, 64, 100, 128} {
		m := memory(n)
		for addr := range uint32(n) {
			for size, mask := range lowest {
				for _, v := range []uint32{0, 0x01020304, 0xfedcba98, math.MaxUint32} {
					written, cause := Write(m, addr, size, v)
					if cause != api.TNone {
						continue
					}
					if got, cause := Read(written, addr, size); got != v&mask || cause != api.TNone {
						t.Fatalf("%s: read %#x, %d behind %#x", call(m, addr, size), got, cause, v)
					}
					within(t, m, written, addr, size)
					restore(t, m, written, addr, size)
				}
			}
		}
	}
}

// within is that two memories of one length differ in bytes of a location alone, and that Diff names these and only these.
func within(t *testing.T, m, written []byte, addr uint32, size int) {
	t.Helper()
	if len(m) != len(written) {
		t.Fatalf("%s: %d bytes were returned", call(m, addr, size), len(written))
	}
	var changed []int
	for k := int(addr); k < int(addr)+size; k++ {
		if m[k] != written[k] {
			changed = append(changed, k)
		}
	}
	if got := Diff(m, written); !slices.Equal(got, changed) {
		t.Fatalf("%s: Diff %v, want %v", call(m, addr, size), got, changed)
	}
}

// restore is that writing what was read gives back the memory that it was read from, there and where another number was written.
func restore(t *testing.T, m, written []byte, addr uint32, size int) {
	t.Helper()
	v, _ := Read(m, addr, size)
	for _, from := range [][]byte{m, written} {
		back, cause := Write(from, addr, size, v)
		if cause != api.TNone || len(Diff(back, m)) != 0 || !bytes.Equal(back, m) {
			t.Fatalf("%s: writing what was read: %x, %d", call(m, addr, size), back, cause)
		}
	}
}

func TestRefused(t *testing.T) { // Me4: a Write that answers a cause changes nothing
	for _, n := range []int{0, 1, 3, 4, 64, 100, 16384, 16448} {
		m, same := kept(memory(n))
		for _, addr := range addresses(n) {
			for _, size := range sizes {
				if wantCheck(m, addr, size) == api.TNone {
					continue
				}
				if written, cause := Write(m, addr, size, 0x5a5a5a5a); written != nil || cause != api.TBus {
					t.Fatalf("Write of %s: %d bytes, %d", call(m, addr, size), len(written), cause)
				}
			}
		}
		if !same() {
			t.Errorf("memory of %d bytes is another one behind what was refused", n)
		}
	}
}

func TestByChance(t *testing.T) { // Me1 to Me4: a memory that is written again and again, against a model of its bytes
	x := uint64(10)
	for range 60 {
		m := memory(choose(&x, 150))
		for range 60 {
			addr, size, v := uint32(choose(&x, len(m)+6)), choose(&x, 7)-1, uint32(choose(&x, 1<<31))*3
			check(t, m, addr, size, v)
			before := slices.Clone(m)
			if written, cause := Write(m, addr, size, v); cause == api.TNone {
				m = written
			}
			differ(t, before, m, wantDiff(before, m))
			part := m[:choose(&x, len(m)+1)]
			differ(t, before, part, wantDiff(before, part))
		}
	}
}
