package bits

import (
	"bytes"
	"math"
	"testing"
)

// words has every single bit, every run of low bits, and mixed patterns.
func words() []uint32 {
	l := []uint32{0, 0xffffffff, 0x12345678, 0x87654321, 0xdeadbeef, 0x80000001, 0x55555555, 0xaaaaaaaa, 0x00ff00ff, 0xff00ff00, 0x01020304, 0xfffffffe}
	for k := range 32 {
		l = append(l, 1<<k, 1<<k-1)
	}
	x := uint32(1)
	for range 40 {
		x = x*1664525 + 1013904223
		l = append(l, x)
	}
	return l
}

// few is a shorter list, for tests over two words.
func few() []uint32 {
	return []uint32{0, 1, 0xffffffff, 0x80000000, 0x12345678, 0xaabbccdd, 0x11223344, 0xfedcba98}
}

// around is every int near the bounds that the chapter names, and the greatest and the smallest ones.
func around() []int {
	l := []int{math.MinInt, math.MinInt + 1, math.MinInt32, -1 << 32, 1 << 32, 1<<32 + 5, math.MaxInt32, math.MaxInt - 1, math.MaxInt, -1000, 1000, 256, 255, 64, -64}
	for n := -40; n <= 40; n++ {
		l = append(l, n)
	}
	return l
}

func bound(n, lo, hi int) int {
	if n < lo {
		return lo
	}
	if n > hi {
		return hi
	}
	return n
}

func bit(x uint32, k int) bool { return x/(1<<k)%2 == 1 }

// build makes a word from what is told of each of its bits.
func build(f func(k int) bool) uint32 {
	var x uint32
	for k := range 32 {
		if f(k) {
			x += 1 << k
		}
	}
	return x
}

func TestExtend(t *testing.T) { // Bi1
	for _, x := range words() {
		for _, n := range around() {
			m := bound(n, 0, 32)
			zero := build(func(k int) bool { return k < m && bit(x, k) })
			if got := Zext(x, n); got != zero {
				t.Fatalf("Zext(%#x, %d) = %#x, want %#x", x, n, got, zero)
			}
			sign := build(func(k int) bool {
				if k < m {
					return bit(x, k)
				}
				return m > 0 && bit(x, m-1)
			})
			if got := Sext(x, n); got != sign {
				t.Fatalf("Sext(%#x, %d) = %#x, want %#x", x, n, got, sign)
			}
		}
	}
}

func TestExtendEdges(t *testing.T) { // Bi1
	for _, c := range []struct {
		x          uint32
		n          int
		zext, sext uint32
	}{
		{0x80, 8, 0x80, 0xffffff80},
		{0x7f, 8, 0x7f, 0x7f},
		{0x180, 8, 0x80, 0xffffff80},
		{1, 1, 1, 0xffffffff},
		{2, 1, 0, 0},
		{0xffffffff, 0, 0, 0},
		{0xffffffff, -1, 0, 0},
		{0xffffffff, math.MinInt, 0, 0},
		{0x80000000, 31, 0, 0},
		{0x40000000, 31, 0x40000000, 0xc0000000},
		{0x80000000, 32, 0x80000000, 0x80000000},
		{0x80000001, 33, 0x80000001, 0x80000001},
		{0xdeadbeef, math.MaxInt, 0xdeadbeef, 0xdeadbeef},
		{0x2000, 14, 0x2000, 0xffffe000},
	} {
		if z, s := Zext(c.x, c.n), Sext(c.x, c.n); z != c.zext || s != c.sext {
			t.Errorf("%#x, %d: Zext %#x, Sext %#x, want %#x, %#x", c.x, c.n, z, s, c.zext, c.sext)
		}
	}
}

func TestFieldAndPut(t *testing.T) { // Bi2
	for _, x := range few() {
		for _, hi := range around() {
			for _, lo := range around() {
				h, l := bound(hi, 0, 31), bound(lo, 0, 31)
				want := build(func(k int) bool { return k <= h-l && bit(x, k+l) })
				if got := Field(x, hi, lo); got != want {
					t.Fatalf("Field(%#x, %d, %d) = %#x, want %#x", x, hi, lo, got, want)
				}
				v := ^x*3 + 0x9e3779b9
				want = build(func(k int) bool {
					if l <= k && k <= h {
						return bit(v, k-l)
					}
					return bit(x, k)
				})
				if got := Put(x, hi, lo, v); got != want {
					t.Fatalf("Put(%#x, %d, %d, %#x) = %#x, want %#x", x, hi, lo, v, got, want)
				}
			}
		}
	}
}

func TestFieldEdges(t *testing.T) { // Bi2
	for _, c := range []struct {
		x      uint32
		hi, lo int
		want   uint32
	}{
		{0x12345678, 15, 8, 0x56},
		{0xabcdef01, 31, 0, 0xabcdef01},
		{0xabcdef01, 40, -3, 0xabcdef01},
		{0xabcdef01, math.MaxInt, math.MinInt, 0xabcdef01},
		{0xabcdef01, 3, 4, 0},
		{0xffffffff, 0, 31, 0},
		{0xffffffff, -5, 1, 0},
		{3, -5, -9, 1},          // both clamped to 0
		{3, -9, -5, 1},          // hi is less than lo only before clamping
		{0x80000000, 32, 99, 1}, // both clamped to 31
		{0x80000000, 31, 31, 1}, // a single bit
		{0x7fffffff, 31, 31, 0},
		{0xf0000000, 99, 28, 0xf},    // hi clamped
		{0x0000000f, 2, -1, 7},       // lo clamped
		{0xffffffff, 30, 1 << 32, 0}, // hi less than lo after clamping
	} {
		if got := Field(c.x, c.hi, c.lo); got != c.want {
			t.Errorf("Field(%#x, %d, %d) = %#x, want %#x", c.x, c.hi, c.lo, got, c.want)
		}
	}
}

func TestPutEdges(t *testing.T) { // Bi2
	for _, c := range []struct {
		x      uint32
		hi, lo int
		v      uint32
		want   uint32
	}{
		{0, 7, 4, 0x1f, 0xf0},
		{0xffffffff, 7, 4, 0, 0xffffff0f},
		{0xffffffff, 31, 0, 3, 3},
		{0xffffffff, 99, -99, 3, 3},
		{9, 1, 2, 7, 9},
		{9, -7, 1, 7, 9},
		{9, 30, math.MaxInt, 7, 9},
		{0, -1, -2, 7, 1},
		{0, -2, -1, 7, 1},
		{0, 32, 33, 7, 0x80000000},
		{0xffffffff, 31, 31, 2, 0x7fffffff},
		{0, 25, 22, 15, 0x03c00000},
	} {
		if got := Put(c.x, c.hi, c.lo, c.v); got != c.want {
			t.Errorf("Put(%#x, %d, %d, %#x) = %#x, want %#x", c.x, c.hi, c.lo, c.v, got, c.want)
		}
	}
}

// turn is one step to the right: bit k to k - 1, bit 0 to 31.
func turn(x uint32) uint32 {
	return build(func(k int) bool { return bit(x, (k+1)%32) })
}

func TestRot(t *testing.T) { // Bi3
	for _, x := range words() {
		for _, n := range around() {
			want := x
			for range (n%32 + 32) % 32 {
				want = turn(want)
			}
			if got := Rot(x, n); got != want {
				t.Fatalf("Rot(%#x, %d) = %#x, want %#x", x, n, got, want)
			}
		}
	}
}

func TestRotEdges(t *testing.T) { // Bi3
	for _, c := range []struct {
		x    uint32
		n    int
		want uint32
	}{
		{0x80000001, 1, 0xc0000000},
		{1, 1, 0x80000000},
		{1, -1, 2},
		{0x80000000, -1, 1},
		{0x12345678, 0, 0x12345678},
		{0x12345678, 32, 0x12345678},
		{0x12345678, -32, 0x12345678},
		{0x12345678, 40, 0x78123456},
		{0x12345678, -8, 0x34567812},
		{0x12345678, 31, 0x2468acf0},
		{1, math.MinInt, 1},
		{1, math.MaxInt, 2},
	} {
		if got := Rot(c.x, c.n); got != c.want {
			t.Errorf("Rot(%#x, %d) = %#x, want %#x", c.x, c.n, got, c.want)
		}
	}
}

func TestAligned(t *testing.T) { // Bi4
	addrs := []uint32{0xfffffffc, 0xfffffffd, 0xfffffffe, 0xffffffff, 0x80000000, 0x80000002}
	for a := range uint32(20) {
		addrs = append(addrs, a)
	}
	for _, a := range addrs {
		for _, n := range around() {
			want := n == 1 || n == 2 && a&1 == 0 || n == 4 && a&3 == 0
			if got := Aligned(a, n); got != want {
				t.Fatalf("Aligned(%#x, %d) = %v", a, n, got)
			}
		}
	}
	// Sizes whose lowest 32 bits are a right size.
	for _, n := range []int{1<<32 + 1, 1<<32 + 2, 1<<32 + 4, math.MinInt + 4} {
		if Aligned(0, n) {
			t.Errorf("Aligned(0, %d)", n)
		}
	}
}

func TestBytes(t *testing.T) { // Bi5
	for _, v := range words() {
		all := []byte{byte(v % 256), byte(v / 256 % 256), byte(v / 65536 % 256), byte(v / 16777216)}
		for _, n := range around() {
			if got, want := Bytes(v, n), all[:bound(n, 0, 4)]; !bytes.Equal(got, want) {
				t.Fatalf("Bytes(%#x, %d) = %v, want %v", v, n, got, want)
			}
		}
	}
}

func TestOf(t *testing.T) { // Bi5
	for _, c := range []struct {
		b    []byte
		want uint32
	}{
		{nil, 0},
		{[]byte{}, 0},
		{[]byte{0x81}, 0x81},
		{[]byte{1, 2}, 0x0201},
		{[]byte{1, 2, 3}, 0x030201},
		{[]byte{1, 2, 3, 0xff}, 0xff030201},
		{[]byte{1, 2, 3, 4, 5}, 0x04030201},
		{[]byte{0, 0, 0, 0, 255, 255, 255, 255, 255}, 0},
		{[]byte{1, 2, 3, 4, 5, 6}[1:3], 0x0302}, // what stands behind a list is not read
	} {
		if got := Of(c.b); got != c.want {
			t.Errorf("Of(%v) = %#x, want %#x", c.b, got, c.want)
		}
	}
}

func TestMerge(t *testing.T) { // Bi6
	for _, old := range few() {
		for _, v := range few() {
			for _, at := range around() {
				for _, size := range around() {
					a, n := bound(at, -4, 4), bound(size, 0, 4)
					want := build(func(k int) bool {
						j := k/8 - a
						if j >= 0 && j < n {
							return bit(v, 8*j+k%8)
						}
						return bit(old, k)
					})
					if got := Merge(old, v, at, size); got != want {
						t.Fatalf("Merge(%#x, %#x, %d, %d) = %#x, want %#x", old, v, at, size, got, want)
					}
				}
			}
		}
	}
}

func TestMergeEdges(t *testing.T) { // Bi6
	for _, c := range []struct {
		old, v   uint32
		at, size int
		want     uint32
	}{
		{0x11223344, 0xaa, 1, 1, 0x1122aa44},
		{0x11223344, 0xaabbccdd, 0, 4, 0xaabbccdd},
		{0x11223344, 0xaabbccdd, 0, 9, 0xaabbccdd},
		{0x11223344, 0xaabbccdd, 0, 0, 0x11223344},
		{0x11223344, 0xaabbccdd, 0, -1, 0x11223344},
		{0x11223344, 0xaabbccdd, 0, 3, 0x11bbccdd},
		{0x11223344, 0xaabbccdd, 2, 4, 0xccdd3344},
		{0x11223344, 0xaabbccdd, 3, 4, 0xdd223344},
		{0x11223344, 0xaabbccdd, 4, 4, 0x11223344},
		{0x11223344, 0xaabbccdd, 9, 4, 0x11223344},
		{0x11223344, 0xaabbccdd, -1, 2, 0x112233cc},
		{0x11223344, 0xaabbccdd, -1, 4, 0x11aabbcc},
		{0x11223344, 0xaabbccdd, -3, 4, 0x112233aa},
		{0x11223344, 0xaabbccdd, -4, 4, 0x11223344},
		{0x11223344, 0xaabbccdd, -5, 9, 0x11223344}, // size is not taken beyond 4
		{0x11223344, 0xaabbccdd, math.MinInt, math.MaxInt, 0x11223344},
		{0x11223344, 0xaabbccdd, math.MaxInt, math.MaxInt, 0x11223344},
	} {
		if got := Merge(c.old, c.v, c.at, c.size); got != c.want {
			t.Errorf("Merge(%#x, %#x, %d, %d) = %#x, want %#x", c.old, c.v, c.at, c.size, got, c.want)
		}
	}
}

func TestPutThenField(t *testing.T) { // Bi7
	for _, x := range few() {
		for hi := range 32 {
			for lo := range hi + 1 {
				for _, v := range few() {
					if got, want := Field(Put(x, hi, lo, v), hi, lo), Zext(v, hi-lo+1); got != want {
						t.Fatalf("Field of Put(%#x, %d, %d, %#x) = %#x, want %#x", x, hi, lo, v, got, want)
					}
				}
				if got := Put(x, hi, lo, Field(x, hi, lo)); got != x {
					t.Fatalf("%#x with its own bits %d to %d is %#x", x, hi, lo, got)
				}
			}
		}
	}
}

func TestRotTwice(t *testing.T) { // Bi7
	for _, x := range few() {
		for _, n := range around() {
			for _, m := range around() {
				// The sum wraps round (R6), which does not show modulo 32.
				if got, want := Rot(Rot(x, n), m), Rot(x, n+m); got != want {
					t.Fatalf("Rot(Rot(%#x, %d), %d) = %#x, want %#x", x, n, m, got, want)
				}
			}
		}
	}
}

func TestWordOfItsBytes(t *testing.T) { // Bi7
	for _, v := range words() {
		for n := range 5 {
			if got, want := Of(Bytes(v, n)), Zext(v, 8*n); got != want {
				t.Fatalf("Of(Bytes(%#x, %d)) = %#x, want %#x", v, n, got, want)
			}
		}
	}
}

func TestArgumentsAreKept(t *testing.T) { // R3
	b := []byte{1, 2, 3, 4, 5}
	Of(b)
	if !bytes.Equal(b, []byte{1, 2, 3, 4, 5}) {
		t.Errorf("Of changed its argument to %v", b)
	}
	first, second := Bytes(0x01020304, 4), Bytes(0x01020304, 4)
	first[0] = 99
	if second[0] != 4 || Bytes(0x01020304, 4)[0] != 4 {
		t.Error("two answers of Bytes share memory")
	}
}
