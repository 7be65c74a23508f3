package alu

import (
	"math"
	"testing"

	"cotterel/api"
)

// edges are the words at which sums carry and signs change.
func edges() []uint32 {
	return []uint32{0, 1, 1<<31 - 1, 1 << 31, 1<<32 - 1}
}

// words has the edges, amounts of shifts with and without upper bits, every single bit and its complement, and mixed patterns.
func words() []uint32 {
	l := append(edges(), 2, 30, 31, 32, 33, 63, 64, 0xffffffe0, 0xffffffe1, 0xffffffdf, 0x80000001, 0x80000020, 0xfffffffe, 0x01020304, 0x12345678, 0x87654321, 0xdeadbeef, 0x55555555, 0xaaaaaaaa, 0x00ff00ff, 0x0003ffff, 0x00040000)
	for k := range 32 {
		l = append(l, 1<<k, ^uint32(1<<k), 1<<k-1)
	}
	x := uint32(7)
	for range 30 {
		x = x*1664525 + 1013904223
		l = append(l, x)
	}
	return l
}

// strange has numbers that are no operation's, some of them equal to one modulo 2^8, 2^16 or 2^32.
func strange() []int {
	l := []int{math.MinInt, math.MinInt + 1, math.MinInt32, -1 << 32, math.MaxInt32, math.MaxInt - 1, math.MaxInt}
	for op := range 64 {
		l = append(l, -op-1, op+64, op+128, op+1<<8, op+1<<16, op+1<<32, op-1<<32, op+math.MinInt, math.MaxInt-op)
	}
	return l
}

// value is the signed value, as the chapter defines it.
func value(x uint32) int64 {
	if x >= 1<<31 {
		return int64(x) - 1<<32
	}
	return int64(x)
}

func bit(x uint32, k int) bool { return x/(1<<k)%2 == 1 }

// build makes a word from what is told of each of its bits.
func build(f func(k int) bool) uint32 {
	var x uint32
	for k := range 32 {
		if f(k) {
			x += 1 << k
		}
	}
	return x
}

func one(is bool) uint32 {
	if is {
		return 1
	}
	return 0
}

func leading(x uint32) int {
	for k := 31; k >= 0; k-- {
		if bit(x, k) {
			return 31 - k
		}
	}
	return 32
}

func count(x uint32) int {
	n := 0
	for k := range 32 {
		if bit(x, k) {
			n++
		}
	}
	return n
}

func turned(x uint32) uint32 {
	return x%256<<24 + x/256%256<<16 + x/65536%256<<8 + x>>24
}

// row is an operation with its name, the plain model of its result, and the number of the one with an immediate, 0 if it has none.
type row struct {
	name   string
	op     int
	imm    int
	result func(a, b uint32) uint32
}

func rows() []row {
	return []row{
		{"add", api.OAdd, api.OAddi, func(a, b uint32) uint32 { return uint32((uint64(a) + uint64(b)) % (1 << 32)) }},
		{"sub", api.OSub, 0, func(a, b uint32) uint32 { return uint32((1<<32 + uint64(a) - uint64(b)) % (1 << 32)) }},
		{"and", api.OAnd, api.OAndi, func(a, b uint32) uint32 { return build(func(k int) bool { return bit(a, k) && bit(b, k) }) }},
		{"or", api.OOr, api.OOri, func(a, b uint32) uint32 { return build(func(k int) bool { return bit(a, k) || bit(b, k) }) }},
		{"xor", api.OXor, api.OXori, func(a, b uint32) uint32 { return build(func(k int) bool { return bit(a, k) != bit(b, k) }) }},
		{"sll", api.OSll, api.OSlli, func(a, b uint32) uint32 {
			n := int(b % 32)
			return build(func(k int) bool { return k >= n && bit(a, k-n) })
		}},
		{"srl", api.OSrl, api.OSrli, func(a, b uint32) uint32 {
			n := int(b % 32)
			return build(func(k int) bool { return k+n < 32 && bit(a, k+n) })
		}},
		{"sra", api.OSra, api.OSrai, func(a, b uint32) uint32 {
			n := int(b % 32)
			return build(func(k int) bool { return bit(a, min(k+n, 31)) })
		}},
		{"slt", api.OSlt, api.OSlti, func(a, b uint32) uint32 { return one(value(a) < value(b)) }},
		{"sltu", api.OSltu, 0, func(a, b uint32) uint32 { return one(uint64(a) < uint64(b)) }},
		{"min", api.OMin, 0, func(a, b uint32) uint32 { return uint32(min(value(a), value(b)) & math.MaxUint32) }},
		{"max", api.OMax, 0, func(a, b uint32) uint32 { return uint32(max(value(a), value(b)) & math.MaxUint32) }},
		{"ror", api.ORor, 0, func(a, b uint32) uint32 {
			n := int(b % 32)
			return build(func(k int) bool { return bit(a, (k+n)%32) })
		}},
		{"lui", api.OLui, 0, func(_, b uint32) uint32 { return uint32(uint64(b) * 16384 % (1 << 32)) }},
		{"clz", api.OClz, 0, func(a, _ uint32) uint32 { return uint32(leading(a)) }},
		{"pop", api.OPop, 0, func(a, _ uint32) uint32 { return uint32(count(a)) }},
		{"rev", api.ORev, 0, func(a, _ uint32) uint32 { return turned(a) }},
	}
}

// do is the result of an operation that must have one.
func do(t *testing.T, op int, a, b uint32) uint32 {
	t.Helper()
	v, ok := Do(op, a, b)
	if !ok {
		t.Fatalf("Do(%d, %#x, %#x) has no result", op, a, b)
	}
	return v
}

func TestDo(t *testing.T) { // Al1: against the plain model; Al4: with an immediate
	for _, r := range rows() {
		for _, a := range words() {
			for _, b := range words() {
				want := r.result(a, b)
				if got := do(t, r.op, a, b); got != want {
					t.Fatalf("%s of %#x and %#x = %#x, want %#x", r.name, a, b, got, want)
				}
				if r.imm == 0 {
					continue
				}
				if got := do(t, r.imm, a, b); got != want {
					t.Fatalf("%si of %#x and %#x = %#x, want %#x", r.name, a, b, got, want)
				}
			}
		}
	}
}

func TestDoWritten(t *testing.T) { // Al1: results written out, independent of the model
	for _, c := range []struct {
		op         int
		a, b, want uint32
	}{
		{api.OAdd, 0xffffffff, 1, 0}, {api.OAdd, 0x7fffffff, 1, 0x80000000}, {api.OAdd, 0x80000000, 0x80000000, 0}, {api.OAdd, 0, 0, 0},
		{api.OAddi, 5, 0xffffffff, 4}, {api.OAddi, 0xffffffff, 0xffffffff, 0xfffffffe},
		{api.OSub, 0, 1, 0xffffffff}, {api.OSub, 0x80000000, 1, 0x7fffffff}, {api.OSub, 0, 0x80000000, 0x80000000}, {api.OSub, 7, 7, 0},
		{api.OAnd, 0xff00ff00, 0x0ff00ff0, 0x0f000f00}, {api.OOr, 0xff00ff00, 0x0ff00ff0, 0xfff0fff0}, {api.OXor, 0xff00ff00, 0x0ff00ff0, 0xf0f0f0f0},
		{api.OAndi, 12, 0xffffffff, 12}, {api.OOri, 12, 0, 12}, {api.OXori, 12, 0xffffffff, 0xfffffff3},
		{api.OSll, 0x80000001, 0, 0x80000001}, {api.OSll, 0x80000001, 31, 0x80000000}, {api.OSll, 0x80000001, 32, 0x80000001}, {api.OSll, 0x80000001, 33, 2}, {api.OSll, 1, 0xfffffffe, 0x40000000},
		{api.OSlli, 3, 31, 0x80000000}, {api.OSlli, 3, 32, 3}, {api.OSlli, 3, 0xffffffe1, 6},
		{api.OSrl, 0x80000001, 0, 0x80000001}, {api.OSrl, 0x80000001, 31, 1}, {api.OSrl, 0x80000001, 32, 0x80000001}, {api.OSrl, 0x80000001, 33, 0x40000000}, {api.OSrl, 0x80000000, 0x80000004, 0x08000000},
		{api.OSrli, 0x80000000, 31, 1}, {api.OSrli, 0x80000000, 32, 0x80000000}, {api.OSrli, 0x80000000, 0xffffffe1, 0x40000000},
		{api.OSra, 0x80000000, 0, 0x80000000}, {api.OSra, 0x80000000, 31, 0xffffffff}, {api.OSra, 0x80000000, 32, 0x80000000}, {api.OSra, 0x80000000, 33, 0xc0000000}, {api.OSra, 0x80000000, 0xffffffff, 0xffffffff}, {api.OSra, 0x7fffffff, 31, 0}, {api.OSra, 0x7fffffff, 4, 0x07ffffff},
		{api.OSrai, 0x80000000, 31, 0xffffffff}, {api.OSrai, 0x80000000, 32, 0x80000000}, {api.OSrai, 0x40000000, 30, 1}, {api.OSrai, 0xfffffffe, 0xffffffe1, 0xffffffff},
		{api.OSlt, 0x80000000, 0x7fffffff, 1}, {api.OSlt, 0x7fffffff, 0x80000000, 0}, {api.OSlt, 0xffffffff, 0, 1}, {api.OSlt, 0, 0xffffffff, 0}, {api.OSlt, 0x80000000, 0x80000000, 0}, {api.OSlt, 0xfffffffe, 0xffffffff, 1},
		{api.OSlti, 0x80000000, 0x7fffffff, 1}, {api.OSlti, 0, 0xffffffff, 0}, {api.OSlti, 5, 5, 0}, {api.OSlti, 4, 5, 1},
		{api.OSltu, 0x80000000, 0x7fffffff, 0}, {api.OSltu, 0x7fffffff, 0x80000000, 1}, {api.OSltu, 0, 0xffffffff, 1}, {api.OSltu, 0xffffffff, 0xffffffff, 0},
		{api.OMin, 0x80000000, 0x7fffffff, 0x80000000}, {api.OMin, 0x7fffffff, 0x80000000, 0x80000000}, {api.OMin, 0, 0xffffffff, 0xffffffff}, {api.OMin, 9, 9, 9}, {api.OMin, 0x80000000, 0x80000000, 0x80000000},
		{api.OMax, 0x80000000, 0x7fffffff, 0x7fffffff}, {api.OMax, 0x7fffffff, 0x80000000, 0x7fffffff}, {api.OMax, 0, 0xffffffff, 0}, {api.OMax, 9, 9, 9}, {api.OMax, 0xffffffff, 0xffffffff, 0xffffffff},
		{api.ORor, 0x12345678, 0, 0x12345678}, {api.ORor, 0x12345678, 4, 0x81234567}, {api.ORor, 1, 31, 2}, {api.ORor, 0x12345678, 32, 0x12345678}, {api.ORor, 1, 33, 0x80000000}, {api.ORor, 1, 0xffffffff, 2},
		{api.OLui, 0, 1, 16384}, {api.OLui, 0xffffffff, 0, 0}, {api.OLui, 1, 0x3ffff, 0xffffc000}, {api.OLui, 0, 0x40000, 0}, {api.OLui, 0, 0xfffc0001, 16384}, {api.OLui, 0, 0xffffffff, 0xffffc000},
		{api.OClz, 0, 1, 32}, {api.OClz, 0xffffffff, 0, 0}, {api.OPop, 0, 1, 0}, {api.OPop, 0xffffffff, 0, 32}, {api.ORev, 0x80000001, 0xff, 0x01000080},
	} {
		if got := do(t, c.op, c.a, c.b); got != c.want {
			t.Errorf("Do(%d, %#x, %#x) = %#x, want %#x", c.op, c.a, c.b, got, c.want)
		}
	}
}

func TestDoOthers(t *testing.T) { // Al1: any other number
	listed := map[int]bool{}
	for _, r := range rows() {
		listed[r.op] = true
		if r.imm != 0 {
			listed[r.imm] = true
		}
	}
	if len(listed) != 25 {
		t.Fatalf("%d operations are listed, want 25", len(listed))
	}
	others := strange()
	for op := range 64 {
		if !listed[op] {
			others = append(others, op)
		}
	}
	for _, op := range others {
		for _, a := range edges() {
			for _, b := range edges() {
				if v, ok := Do(op, a, b); v != 0 || ok {
					t.Fatalf("Do(%d, %#x, %#x) = %#x, %v, want 0, false", op, a, b, v, ok)
				}
			}
		}
	}
}

func TestCmov(t *testing.T) { // Al2
	for _, old := range edges() {
		for _, a := range edges() {
			for _, b := range words() {
				want := a
				if b == 0 {
					want = old
				}
				if got := Cmov(old, a, b); got != want {
					t.Fatalf("Cmov(%#x, %#x, %#x) = %#x, want %#x", old, a, b, got, want)
				}
			}
		}
	}
}

func TestTaken(t *testing.T) { // Al2: the six branches
	branches := map[int]func(a, b uint32) bool{
		api.OBeq:  func(a, b uint32) bool { return value(a) == value(b) },
		api.OBne:  func(a, b uint32) bool { return value(a) != value(b) },
		api.OBlt:  func(a, b uint32) bool { return value(a) < value(b) },
		api.OBge:  func(a, b uint32) bool { return value(a) >= value(b) },
		api.OBltu: func(a, b uint32) bool { return uint64(a) < uint64(b) },
		api.OBgeu: func(a, b uint32) bool { return uint64(a) >= uint64(b) },
	}
	for op, want := range branches {
		for _, a := range words() {
			for _, b := range words() {
				if got := Taken(op, a, b); got != want(a, b) {
					t.Fatalf("Taken(%d, %#x, %#x) = %v", op, a, b, got)
				}
			}
		}
	}
	others := strange()
	for op := range 64 {
		if branches[op] == nil {
			others = append(others, op)
		}
	}
	for _, op := range others {
		for _, a := range edges() {
			for _, b := range edges() {
				if Taken(op, a, b) {
					t.Fatalf("Taken(%d, %#x, %#x) is true, but it is no branch", op, a, b)
				}
			}
		}
	}
}

func TestTakenWritten(t *testing.T) { // Al2: answers written out
	for _, c := range []struct {
		a, b                     uint32
		eq, ne, lt, ge, ltu, geu bool
	}{
		{0, 0, true, false, false, true, false, true},
		{0x80000000, 0x80000000, true, false, false, true, false, true},
		{1, 2, false, true, true, false, true, false},
		{2, 1, false, true, false, true, false, true},
		{0xffffffff, 0, false, true, true, false, false, true},
		{0, 0xffffffff, false, true, false, true, true, false},
		{0x7fffffff, 0x80000000, false, true, false, true, true, false},
		{0x80000000, 0x7fffffff, false, true, true, false, false, true},
	} {
		got := [6]bool{Taken(api.OBeq, c.a, c.b), Taken(api.OBne, c.a, c.b), Taken(api.OBlt, c.a, c.b), Taken(api.OBge, c.a, c.b), Taken(api.OBltu, c.a, c.b), Taken(api.OBgeu, c.a, c.b)}
		if want := [6]bool{c.eq, c.ne, c.lt, c.ge, c.ltu, c.geu}; got != want {
			t.Errorf("branches at %#x and %#x: %v, want %v", c.a, c.b, got, want)
		}
	}
}

func TestBitsOfAWord(t *testing.T) { // Al3: against the plain model
	for _, x := range words() {
		if got := Clz(x); got != leading(x) {
			t.Fatalf("Clz(%#x) = %d, want %d", x, got, leading(x))
		}
		if got := Pop(x); got != count(x) {
			t.Fatalf("Pop(%#x) = %d, want %d", x, got, count(x))
		}
		if got := Rev(x); got != turned(x) {
			t.Fatalf("Rev(%#x) = %#x, want %#x", x, got, turned(x))
		}
	}
}

func TestSingleBits(t *testing.T) { // Al3: 0, each single bit, all ones
	if Clz(0) != 32 || Pop(0) != 0 || Rev(0) != 0 {
		t.Errorf("at 0: %d, %d, %#x", Clz(0), Pop(0), Rev(0))
	}
	if x := uint32(0xffffffff); Clz(x) != 0 || Pop(x) != 32 || Rev(x) != x {
		t.Errorf("at all ones: %d, %d, %#x", Clz(x), Pop(x), Rev(x))
	}
	for k := range 32 {
		x := uint32(1) << k
		// Bit k is bit k % 8 of byte k / 8, and that byte moves to 3 - k / 8.
		turn := uint32(1) << (k%8 + 8*(3-k/8))
		if Clz(x) != 31-k || Pop(x) != 1 || Pop(^x) != 31 || Rev(x) != turn {
			t.Errorf("at bit %d: %d, %d, %d, %#x", k, Clz(x), Pop(x), Pop(^x), Rev(x))
		}
	}
	if got := Rev(0x01020304); got != 0x04030201 {
		t.Errorf("Rev(0x01020304) = %#x", got)
	}
}

func TestInverses(t *testing.T) { // Al4: sub and add, xor, ror, rev
	for _, a := range words() {
		for _, b := range words() {
			if got := do(t, api.OSub, do(t, api.OAdd, a, b), b); got != a {
				t.Fatalf("%#x plus and minus %#x = %#x", a, b, got)
			}
			if got := do(t, api.OAdd, do(t, api.OSub, a, b), b); got != a {
				t.Fatalf("%#x minus and plus %#x = %#x", a, b, got)
			}
			if got := do(t, api.OXor, do(t, api.OXor, a, b), b); got != a {
				t.Fatalf("%#x xor %#x twice = %#x", a, b, got)
			}
		}
		for n := range uint32(33) {
			if got := do(t, api.ORor, do(t, api.ORor, a, n), 32-n); got != a {
				t.Fatalf("%#x ror %d and then %d = %#x", a, n, 32-n, got)
			}
		}
		if got := do(t, api.ORev, do(t, api.ORev, a, 0), 0); got != a {
			t.Fatalf("rev of %#x twice = %#x", a, got)
		}
	}
}

func TestOrders(t *testing.T) { // Al4: slt and sltu are order relations
	l := append(edges(), 2, 0xfffffffe, 0x80000001, 0x7ffffffe, 0x12345678, 0x87654321)
	for _, op := range []int{api.OSlt, api.OSltu, api.OSlti} {
		less := func(a, b uint32) bool { return do(t, op, a, b) == 1 }
		for _, a := range l {
			for _, b := range l {
				if v := do(t, op, a, b); v > 1 {
					t.Fatalf("operation %d of %#x and %#x = %#x", op, a, b, v)
				}
				if less(a, b) && less(b, a) || (a == b) == (less(a, b) || less(b, a)) {
					t.Fatalf("operation %d does not order %#x and %#x", op, a, b)
				}
				for _, c := range l {
					if less(a, b) && less(b, c) && !less(a, c) {
						t.Fatalf("operation %d is not transitive at %#x, %#x, %#x", op, a, b, c)
					}
				}
			}
		}
	}
}

func TestAgree(t *testing.T) { // Al4: min, max and the branches agree with slt and sltu
	for _, a := range words() {
		for _, b := range words() {
			less, below := do(t, api.OSlt, a, b) == 1, do(t, api.OSltu, a, b) == 1
			small, great := b, a
			if less {
				small, great = a, b
			}
			if do(t, api.OMin, a, b) != small || do(t, api.OMax, a, b) != great {
				t.Fatalf("min, max of %#x and %#x = %#x, %#x", a, b, do(t, api.OMin, a, b), do(t, api.OMax, a, b))
			}
			if Taken(api.OBlt, a, b) != less || Taken(api.OBge, a, b) == less || Taken(api.OBltu, a, b) != below || Taken(api.OBgeu, a, b) == below {
				t.Fatalf("branches at %#x and %#x do not agree with slt and sltu", a, b)
			}
			if Taken(api.OBeq, a, b) == Taken(api.OBne, a, b) || Taken(api.OBeq, a, b) != (do(t, api.OXor, a, b) == 0) {
				t.Fatalf("beq and bne at %#x and %#x do not agree", a, b)
			}
		}
	}
}

func TestExamples(t *testing.T) {
	if v, ok := Do(api.OSra, 0x80000000, 33); v != 0xc0000000 || !ok {
		t.Errorf("sra: %#x, %v", v, ok)
	}
	if v, ok := Do(api.OMul, 2, 3); v != 0 || ok {
		t.Errorf("mul: %#x, %v", v, ok)
	}
	if Clz(1) != 31 || Rev(0x01020304) != 0x04030201 {
		t.Errorf("Clz(1) = %d, Rev(0x01020304) = %#x", Clz(1), Rev(0x01020304))
	}
}
