package mul

import (
	"math"
	"math/big"
	"testing"

	"cotterel/api"
)

// edges are the words at which sums carry and signs change.
func edges() []uint32 {
	return []uint32{0, 1, 1<<31 - 1, 1 << 31, 1<<32 - 1}
}

// words has the edges, every single bit, what is below it and its complement, and mixed patterns.
func words() []uint32 {
	l := append(edges(), 2, 3, 0x80000001, 0xfffffffe, 0x0000ffff, 0x00010001, 0x12345678, 0x87654321, 0xdeadbeef, 0x55555555, 0xaaaaaaaa)
	for k := range 32 {
		l = append(l, 1<<k, ^uint32(1<<k), 1<<k-1)
	}
	x := uint32(11)
	for range 20 {
		x = x*1664525 + 1013904223
		l = append(l, x)
	}
	return l
}

// few is a shorter list, for cases with four words.
func few() []uint32 {
	return append(edges(), 2, 3, 0x80000001, 0xfffffffe, 0x12345678, 0x87654321)
}

// lefts are numbers of steps: none, some, all of a product, too many.
func lefts() []int {
	return []int{math.MinInt, math.MinInt + 1, math.MinInt32, -33, -32, -31, -2, -1, 0, 1, 2, 3, 16, 30, 31, 32, 33, 34, 63, 64, 65, 1000, math.MaxInt32, 1<<32 + 1, math.MaxInt - 1, math.MaxInt}
}

// value is the signed value, as the chapter defines it.
func value(x uint32) int64 {
	if x >= 1<<31 {
		return int64(x) - 1<<32
	}
	return int64(x)
}

// plain is a step as the chapter tells it, with a carry of its own, by quotients and remainders.
func plain(m Mul) Mul {
	if m.Left < 1 {
		return m
	}
	hi, carry := uint64(m.Hi), uint64(0)
	if m.B%2 == 1 {
		hi += uint64(m.A)
		if hi > 1<<32-1 {
			hi, carry = hi-1<<32, 1
		}
	}
	lo := uint64(m.Lo)/2 + hi%2*(1<<31)
	hi = hi/2 + carry*(1<<31)
	return Mul{A: m.A, B: m.B / 2, Hi: uint32(hi), Lo: uint32(lo), Left: m.Left - 1}
}

func TestNew(t *testing.T) { // Mu1
	for _, a := range words() {
		for _, b := range words() {
			if got, want := New(a, b), (Mul{a, b, 0, 0, 32}); got != want {
				t.Fatalf("New(%#x, %#x) = %+v, want %+v", a, b, got, want)
			}
		}
	}
}

func TestStep(t *testing.T) { // Mu1: against the plain model, at multiplications that no New made
	for _, left := range lefts() {
		for _, a := range few() {
			for _, b := range few() {
				for _, hi := range few() {
					for _, lo := range few() {
						m := Mul{a, b, hi, lo, left}
						if got, want := Step(m), plain(m); got != want {
							t.Fatalf("Step(%+v) = %+v, want %+v", m, got, want)
						}
					}
				}
			}
		}
	}
}

func TestStepBits(t *testing.T) { // Mu1: each bit of each field
	for _, x := range words() {
		for _, y := range words() {
			for _, m := range []Mul{{x, 1, y, 0, 5}, {x, 0, y, 0, 5}, {0, x, 0, y, 5}, {0, x, y, 0, 5}, {1, 1, x, y, 5}, {x, y, 0xffffffff, 0, 5}} {
				if got, want := Step(m), plain(m); got != want {
					t.Fatalf("Step(%+v) = %+v, want %+v", m, got, want)
				}
			}
		}
	}
}

func TestStepWritten(t *testing.T) { // Mu1: steps written out, independent of the model
	for _, c := range []struct {
		name    string
		m, want Mul
	}{
		{"nothing to add", Mul{7, 0, 0, 0, 32}, Mul{7, 0, 0, 0, 31}},
		{"nothing is added at bit 0 of B = 0", Mul{0xffffffff, 2, 6, 8, 3}, Mul{0xffffffff, 1, 3, 4, 2}},
		{"no carry of its own at bit 0 of B = 0", Mul{0xffffffff, 0xfffffffe, 0xffffffff, 0xffffffff, 1}, Mul{0xffffffff, 0x7fffffff, 0x7fffffff, 0xffffffff, 0}},
		{"a sum without a carry, even", Mul{5, 1, 3, 6, 1}, Mul{5, 0, 4, 3, 0}},
		{"a sum without a carry, odd", Mul{5, 1, 2, 6, 1}, Mul{5, 0, 3, 0x80000003, 0}},
		{"a sum of 2^32 - 1", Mul{0xfffffffe, 1, 1, 0, 1}, Mul{0xfffffffe, 0, 0x7fffffff, 0x80000000, 0}},
		{"a sum of 2^32", Mul{0xffffffff, 1, 1, 0, 1}, Mul{0xffffffff, 0, 0x80000000, 0, 0}},
		{"a carry and an odd sum", Mul{0xffffffff, 3, 2, 1, 9}, Mul{0xffffffff, 1, 0x80000000, 0x80000000, 8}},
		{"the greatest sum", Mul{0xffffffff, 0xffffffff, 0xffffffff, 0xffffffff, 33}, Mul{0xffffffff, 0x7fffffff, 0xffffffff, 0x7fffffff, 32}},
		{"bit 31 of A and of Hi", Mul{0x80000000, 1, 0x80000000, 0, 2}, Mul{0x80000000, 0, 0x80000000, 0, 1}},
		{"bit 0 of Hi moves to Lo", Mul{0, 0, 1, 0, 1}, Mul{0, 0, 0, 0x80000000, 0}},
		{"bit 0 of Lo is lost", Mul{0, 0, 0, 1, 1}, Mul{0, 0, 0, 0, 0}},
		{"bit 31 of B becomes 0", Mul{0, 0x80000000, 0, 0, 1}, Mul{0, 0x40000000, 0, 0, 0}},
		{"very many steps remain", Mul{1, 1, 1, 1, math.MaxInt}, Mul{1, 0, 1, 0, math.MaxInt - 1}},
		{"more than 2^32 steps remain", Mul{1, 1, 1, 1, 1 << 32}, Mul{1, 0, 1, 0, 1<<32 - 1}},
	} {
		if got := Step(c.m); got != c.want {
			t.Errorf("%s: Step(%+v) = %+v, want %+v", c.name, c.m, got, c.want)
		}
	}
}

func TestStepAtItsEnd(t *testing.T) { // Mu1: with fewer than one step left, all stays
	for _, left := range []int{0, -1, -2, -31, -32, -33, math.MinInt32, -1 << 32, math.MinInt + 1, math.MinInt} {
		for _, m := range []Mul{{0, 0, 0, 0, left}, {7, 1, 0, 0, left}, {0xffffffff, 0xffffffff, 0xffffffff, 0xffffffff, left}, {1, 2, 3, 5, left}} {
			if got := Step(m); got != m {
				t.Errorf("Step(%+v) = %+v", m, got)
			}
		}
	}
}

func TestRun(t *testing.T) { // Mu2: against as many steps of the plain model
	for _, left := range lefts() {
		count := max(0, min(left, 32))
		for _, a := range few() {
			for _, b := range few() {
				for _, hi := range edges() {
					for _, lo := range edges() {
						m := Mul{a, b, hi, lo, left}
						want := m
						for want.Left = count; want.Left > 0; {
							want = plain(want)
						}
						if h, l := Run(m); h != want.Hi || l != want.Lo {
							t.Fatalf("Run(%+v) = %#x, %#x, want %#x, %#x", m, h, l, want.Hi, want.Lo)
						}
					}
				}
			}
		}
	}
}

func TestRunIsSteps(t *testing.T) { // Mu2: against Step, at every number of steps
	for left := -2; left <= 40; left++ {
		for _, a := range words() {
			m := Mul{a, 0xfffffffd, 0x12345678, ^a, left}
			s := m
			for range max(0, min(left, 32)) {
				s = Step(s)
			}
			if hi, lo := Run(m); hi != s.Hi || lo != s.Lo {
				t.Fatalf("Run(%+v) = %#x, %#x, want %#x, %#x", m, hi, lo, s.Hi, s.Lo)
			}
		}
	}
}

func TestRunWritten(t *testing.T) { // Mu2: halves written out
	for _, c := range []struct {
		m      Mul
		hi, lo uint32
	}{
		{Mul{0xffffffff, 0xffffffff, 3, 4, math.MinInt}, 3, 4},
		{Mul{0xffffffff, 0xffffffff, 3, 4, -1}, 3, 4},
		{Mul{0xffffffff, 0xffffffff, 3, 4, 0}, 3, 4},
		{Mul{0xffffffff, 0xffffffff, 2, 4, 1}, 0x80000000, 0x80000002},
		{Mul{5, 0, 8, 0, 3}, 1, 0},
		{Mul{5, 0, 0x80000000, 0, 31}, 1, 0},
		// Without bits of B the halves are shifted by 32 bits, and not further.
		{Mul{5, 0, 0x80000001, 7, 32}, 0, 0x80000001},
		{Mul{5, 0, 0x80000001, 7, 33}, 0, 0x80000001},
		{Mul{5, 0, 0x80000001, 7, 64}, 0, 0x80000001},
		{Mul{5, 0, 0x80000001, 7, math.MaxInt}, 0, 0x80000001},
		{Mul{1, 1, 0xffffffff, 0, 32}, 1, 0},
	} {
		if hi, lo := Run(c.m); hi != c.hi || lo != c.lo {
			t.Errorf("Run(%+v) = %#x, %#x, want %#x, %#x", c.m, hi, lo, c.hi, c.lo)
		}
	}
}

// halves are the lower and the upper half of an unbounded number modulo 2^64.
func halves(x *big.Int) (hi, lo uint32) {
	size := new(big.Int).Lsh(big.NewInt(1), 64)
	low := new(big.Int).Mod(x, size).Uint64()
	return uint32(low >> 32), uint32(low)
}

func TestDo(t *testing.T) { // Mu3: against unbounded numbers
	for _, a := range words() {
		for _, b := range words() {
			unsigned, lower := halves(new(big.Int).Mul(new(big.Int).SetUint64(uint64(a)), new(big.Int).SetUint64(uint64(b))))
			signed, same := halves(new(big.Int).Mul(big.NewInt(value(a)), big.NewInt(value(b))))
			if lower != same {
				t.Fatalf("the model is wrong at %#x and %#x", a, b)
			}
			for op, want := range map[int]uint32{api.OMul: lower, api.OMulhu: unsigned, api.OMulh: signed} {
				if got, ok := Do(op, a, b); got != want || !ok {
					t.Fatalf("Do(%d, %#x, %#x) = %#x, %v, want %#x, true", op, a, b, got, ok, want)
				}
			}
		}
	}
}

func TestDoWritten(t *testing.T) { // Mu3: the three results at all pairs of edges, written out
	for _, c := range []struct {
		a, b, mul, mulh, mulhu uint32
	}{
		{0, 0, 0, 0, 0}, {0, 1, 0, 0, 0}, {0, 0x7fffffff, 0, 0, 0}, {0, 0x80000000, 0, 0, 0}, {0, 0xffffffff, 0, 0, 0},
		{1, 1, 1, 0, 0}, {1, 0x7fffffff, 0x7fffffff, 0, 0}, {1, 0x80000000, 0x80000000, 0xffffffff, 0}, {1, 0xffffffff, 0xffffffff, 0xffffffff, 0},
		{0x7fffffff, 0x7fffffff, 1, 0x3fffffff, 0x3fffffff},
		{0x7fffffff, 0x80000000, 0x80000000, 0xc0000000, 0x3fffffff},
		{0x7fffffff, 0xffffffff, 0x80000001, 0xffffffff, 0x7ffffffe},
		{0x80000000, 0x80000000, 0, 0x40000000, 0x40000000},
		{0x80000000, 0xffffffff, 0x80000000, 0, 0x7fffffff},
		{0xffffffff, 0xffffffff, 1, 0, 0xfffffffe},
		// The signs differ, and the upper half is not all ones.
		{0xfffffffe, 0x7fffffff, 2, 0xffffffff, 0x7ffffffe},
		{0x80000001, 0x7fffffff, 0xffffffff, 0xc0000000, 0x3fffffff},
		{0xffff0000, 0x00020000, 0, 0xfffffffe, 0x0001fffe},
	} {
		for _, d := range []struct {
			op   int
			want uint32
		}{{api.OMul, c.mul}, {api.OMulh, c.mulh}, {api.OMulhu, c.mulhu}} {
			if got, ok := Do(d.op, c.a, c.b); got != d.want || !ok {
				t.Errorf("Do(%d, %#x, %#x) = %#x, %v, want %#x, true", d.op, c.a, c.b, got, ok, d.want)
			}
			if got, ok := Do(d.op, c.b, c.a); got != d.want || !ok {
				t.Errorf("Do(%d, %#x, %#x) = %#x, %v, want %#x, true", d.op, c.b, c.a, got, ok, d.want)
			}
		}
	}
}

func TestDoOthers(t *testing.T) { // Mu3: any other number, some of them equal to an operation's modulo 2^8, 2^16 or 2^32
	if api.OMul != 11 || api.OMulh != 12 || api.OMulhu != 13 {
		t.Fatalf("the operations have the numbers %d, %d, %d", api.OMul, api.OMulh, api.OMulhu)
	}
	others := []int{math.MinInt, math.MinInt + 1, math.MinInt32, math.MaxInt32, math.MaxInt - 1, math.MaxInt}
	for op := range 300 {
		others = append(others, -op-1)
		if op < 11 || op > 13 {
			others = append(others, op)
		}
	}
	for op := range 64 {
		others = append(others, op+1<<8, op+1<<16, op+1<<32, op-1<<32, op+math.MinInt, math.MaxInt-op)
	}
	for _, op := range others {
		for _, a := range edges() {
			for _, b := range edges() {
				if v, ok := Do(op, a, b); v != 0 || ok {
					t.Fatalf("Do(%d, %#x, %#x) = %#x, %v, want 0, false", op, a, b, v, ok)
				}
			}
		}
	}
}

func TestProduct(t *testing.T) { // Mu4: Run of New is the complete product
	for _, a := range words() {
		for _, b := range words() {
			hi, lo := Run(New(a, b))
			if got, want := uint64(hi)<<32|uint64(lo), uint64(a)*uint64(b); got != want {
				t.Fatalf("the product of %#x and %#x = %#x, want %#x", a, b, got, want)
			}
		}
	}
}

func TestPartialProduct(t *testing.T) { // Mu4: after each number of steps
	for _, a := range words() {
		for _, b := range words() {
			m := New(a, b)
			for k := range 33 {
				got := (uint64(m.Hi)<<32 | uint64(m.Lo)) >> (32 - k)
				want := uint64(a) * (uint64(b) % (1 << k))
				if got != want || m.A != a || m.B != uint32(uint64(b)>>k) || m.Left != 32-k {
					t.Fatalf("%#x times %#x after %d steps: %+v, %#x, want %#x", a, b, k, m, got, want)
				}
				m = Step(m)
			}
			if m.Left != 0 || m != Step(m) {
				t.Fatalf("%#x times %#x does not end: %+v", a, b, m)
			}
		}
	}
}

func TestExamples(t *testing.T) {
	if hi, lo := Run(New(0xffffffff, 2)); hi != 1 || lo != 0xfffffffe {
		t.Errorf("Run of New(0xffffffff, 2) = %#x, %#x", hi, lo)
	}
	if v, ok := Do(api.OMulh, 0xffffffff, 2); v != 0xffffffff || !ok {
		t.Errorf("Do(OMulh, 0xffffffff, 2) = %#x, %v", v, ok)
	}
}
