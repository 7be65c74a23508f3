package div

import (
	"math"
	"math/big"
	"testing"

	"cotterel/api"
)

// edges are the words at which remainders overflow and signs change.
func edges() []uint32 {
	return []uint32{0, 1, 2, 1<<31 - 1, 1 << 31, 1<<31 + 1, 1<<32 - 1}
}

// few is a short list, for cases with four words.
func few() []uint32 {
	return append(edges(), 3, 0xfffffffe, 0x12345678, 0x87654321)
}

// words has the edges, every single bit, what is below it and its complement, and mixed patterns.
func words() []uint32 {
	l := append(few(), 5, 7, 10, 0xfffffff9, 0x0000ffff, 0x00010001, 0xdeadbeef, 0x55555555, 0xaaaaaaaa)
	for k := range 32 {
		l = append(l, 1<<k, ^uint32(1<<k), 1<<k-1)
	}
	x := uint32(5)
	for range 20 {
		x = x*1664525 + 1013904223
		l = append(l, x, x>>16)
	}
	return l
}

// lefts are numbers of remaining bits: none, some, all of a word, too many.
func lefts() []int {
	return []int{math.MinInt, math.MinInt + 1, math.MinInt32, -33, -32, -31, -2, -1, 0, 1, 2, 3, 16, 30, 31, 32, 33, 34, 63, 64, 65, 1000, math.MaxInt32, 1 << 32, 1<<32 + 1, math.MaxInt - 1, math.MaxInt}
}

// value is the signed value of a word.
func value(x uint32) int64 {
	if x >= 1<<31 {
		return int64(x) - 1<<32
	}
	return int64(x)
}

// word is an unbounded number modulo 2^32.
func word(x *big.Int) uint32 {
	return uint32(new(big.Int).Mod(x, big.NewInt(1<<32)).Uint64())
}

// plain is a step as the chapter tells it, by quotients and remainders of wider numbers.
func plain(x Div) Div {
	if x.Left > 32 {
		x.Left = 32
	}
	if x.Left <= 0 {
		x.Left = 0
		return x
	}
	k := x.Left - 1
	power := uint64(1)
	for range k {
		power *= 2
	}
	twice := 2*uint64(x.R) + uint64(x.N)/power%2
	if twice < uint64(x.D) {
		return Div{x.N, x.D, uint32(2 * uint64(x.Q) % (1 << 32)), uint32(twice % (1 << 32)), k}
	}
	return Div{x.N, x.D, uint32((2*uint64(x.Q) + 1) % (1 << 32)), uint32((twice - uint64(x.D)) % (1 << 32)), k}
}

func TestNew(t *testing.T) { // DV1
	for _, n := range words() {
		for _, d := range words() {
			if got, want := New(n, d), (Div{n, d, 0, 0, 32}); got != want {
				t.Fatalf("New(%#x, %#x) = %+v, want %+v", n, d, got, want)
			}
		}
	}
}

func TestStep(t *testing.T) { // DV1: against the plain model, at divisions that no New made
	for _, left := range lefts() {
		for _, n := range few() {
			for _, d := range few() {
				for _, q := range few() {
					for _, r := range few() {
						x := Div{n, d, q, r, left}
						if got, want := Step(x), plain(x); got != want {
							t.Fatalf("Step(%+v) = %+v, want %+v", x, got, want)
						}
					}
				}
			}
		}
	}
}

func TestStepBits(t *testing.T) { // DV1: every number of remaining bits finds its bit of N, and each bit of Q and R moves
	for left := -1; left <= 34; left++ {
		for _, y := range words() {
			for _, x := range []Div{{y, 1, 0, 0, left}, {y, 0, 0, 0, left}, {y, 7, 5, 3, left}, {0, 0, y, 0, left}, {0, 0xffffffff, y, 0, left}, {0, 0, 0, y, left}, {0x55555555, 0xffffffff, 9, y, left}, {0xaaaaaaaa, y, 9, y / 2, left}} {
				if got, want := Step(x), plain(x); got != want {
					t.Fatalf("Step(%+v) = %+v, want %+v", x, got, want)
				}
			}
		}
	}
}

func TestStepWritten(t *testing.T) { // DV1: steps written out, independent of the model
	for _, c := range []struct {
		name    string
		x, want Div
	}{
		{"bit 31 of N is 1", Div{0x80000000, 2, 0, 0, 32}, Div{0x80000000, 2, 0, 1, 31}},
		{"bit 31 of N is 0", Div{0x7fffffff, 2, 0, 0, 32}, Div{0x7fffffff, 2, 0, 0, 31}},
		{"bit 0 of N is 1", Div{1, 3, 1, 0, 1}, Div{1, 3, 2, 1, 0}},
		{"bit 0 of N is 0", Div{0xfffffffe, 3, 1, 0, 1}, Div{0xfffffffe, 3, 2, 0, 0}},
		{"just below D, bit 1", Div{4, 6, 3, 2, 3}, Div{4, 6, 6, 5, 2}},
		{"just below D, bit 0", Div{0, 7, 3, 3, 3}, Div{0, 7, 6, 6, 2}},
		{"equal to D, bit 1", Div{4, 5, 3, 2, 3}, Div{4, 5, 7, 0, 2}},
		{"equal to D, bit 0", Div{0, 6, 3, 3, 3}, Div{0, 6, 7, 0, 2}},
		{"one above D", Div{4, 4, 3, 2, 3}, Div{4, 4, 7, 1, 2}},
		{"far above D is subtracted once", Div{4, 2, 3, 20, 3}, Div{4, 2, 7, 39, 2}},
		{"2^32 is above any D", Div{0, 0xffffffff, 0, 0x80000000, 1}, Div{0, 0xffffffff, 1, 1, 0}},
		{"2^32 - 1 is equal to D", Div{1, 0xffffffff, 0, 0x7fffffff, 1}, Div{1, 0xffffffff, 1, 0, 0}},
		{"2^32 - 2 is below D", Div{0, 0xffffffff, 0, 0x7fffffff, 1}, Div{0, 0xffffffff, 0, 0xfffffffe, 0}},
		{"33 bits whose lower 32 are below D", Div{1, 5, 0, 0x80000001, 1}, Div{1, 5, 1, 0xfffffffe, 0}},
		{"33 bits, of which 32 remain", Div{1, 1, 0, 0xffffffff, 1}, Div{1, 1, 1, 0xfffffffe, 0}},
		{"the greatest", Div{0xffffffff, 0xffffffff, 0xffffffff, 0xffffffff, 32}, Div{0xffffffff, 0xffffffff, 0xffffffff, 0, 31}},
		{"D = 0 takes nothing off", Div{4, 0, 1, 2, 3}, Div{4, 0, 3, 5, 2}},
		{"D = 0 at 0", Div{0, 0, 0, 0, 3}, Div{0, 0, 1, 0, 2}},
		{"D = 0 at 33 bits", Div{1, 0, 0, 0x80000003, 1}, Div{1, 0, 1, 7, 0}},
		{"bit 31 of Q is lost", Div{0, 1, 0x80000001, 0, 1}, Div{0, 1, 2, 0, 0}},
		{"bit 31 of Q is lost beside a new bit", Div{0, 1, 0x80000001, 1, 1}, Div{0, 1, 3, 1, 0}},
		{"33 remain: they are 32", Div{0x80000000, 9, 0, 0, 33}, Div{0x80000000, 9, 0, 1, 31}},
		{"very many remain: they are 32", Div{0x80000000, 9, 0, 0, math.MaxInt}, Div{0x80000000, 9, 0, 1, 31}},
		{"2^32 remain: they are 32", Div{0x80000000, 9, 0, 0, 1 << 32}, Div{0x80000000, 9, 0, 1, 31}},
		{"none remains", Div{0xffffffff, 1, 2, 3, 0}, Div{0xffffffff, 1, 2, 3, 0}},
		{"-1 remain: they are 0", Div{0xffffffff, 1, 2, 3, -1}, Div{0xffffffff, 1, 2, 3, 0}},
		{"-32 remain: they are 0", Div{0xffffffff, 0, 2, 3, -32}, Div{0xffffffff, 0, 2, 3, 0}},
		{"very few remain: they are 0", Div{0xffffffff, 1, 2, 3, math.MinInt}, Div{0xffffffff, 1, 2, 3, 0}},
		{"1 - 2^32 remain: they are 0", Div{0xffffffff, 1, 2, 3, 1 - 1<<32}, Div{0xffffffff, 1, 2, 3, 0}},
	} {
		if got := Step(c.x); got != c.want {
			t.Errorf("%s: Step(%+v) = %+v, want %+v", c.name, c.x, got, c.want)
		}
	}
}

func TestRun(t *testing.T) { // DV1: against as many steps of the plain model
	for _, left := range lefts() {
		for _, n := range few() {
			for _, d := range few() {
				for _, q := range edges() {
					for _, r := range edges() {
						x := Div{n, d, q, r, left}
						want := x
						for want.Left > 0 {
							want = plain(want)
						}
						if q, r := Run(x); q != want.Q || r != want.R {
							t.Fatalf("Run(%+v) = %#x, %#x, want %#x, %#x", x, q, r, want.Q, want.R)
						}
					}
				}
			}
		}
	}
}

func TestRunIsSteps(t *testing.T) { // DV1: against Step, at every number of remaining bits
	for left := -2; left <= 40; left++ {
		for _, n := range words() {
			for _, d := range edges() {
				x := Div{n, d, 0x12345678, ^n, left}
				s := x
				for range max(0, min(left, 32)) {
					s = Step(s)
				}
				if q, r := Run(x); q != s.Q || r != s.R || left > 0 && s.Left != 0 {
					t.Fatalf("Run(%+v) = %#x, %#x, want %+v", x, q, r, s)
				}
			}
		}
	}
}

func TestRunWritten(t *testing.T) { // DV1: results written out
	for _, c := range []struct {
		x    Div
		q, r uint32
	}{
		{Div{0xffffffff, 1, 3, 4, math.MinInt}, 3, 4},
		{Div{0xffffffff, 1, 3, 4, -1}, 3, 4},
		{Div{0xffffffff, 1, 3, 4, 0}, 3, 4},
		{Div{0xffffffff, 1, 3, 0, 1}, 7, 0},
		{Div{0xffffffff, 0, 3, 0, 1}, 7, 1},
		// Of N only the lowest bits count where fewer than 32 remain.
		{Div{0xfffffff7, 3, 0, 0, 3}, 2, 1},
		{Div{0xffffffff, 10, 0, 0, 31}, 214748364, 7},
		{Div{0xffffffff, 10, 0, 0, 32}, 429496729, 5},
		// At most 32 bits of the quotient are made, so that what Q had is gone, once.
		{Div{0xffffffff, 10, 1, 0, 31}, 0x8ccccccc, 7},
		{Div{0xffffffff, 10, 1, 0, 32}, 429496729, 5},
		{Div{0xffffffff, 10, 1, 0, 33}, 429496729, 5},
		{Div{0xffffffff, 10, 1, 0, 64}, 429496729, 5},
		{Div{0xffffffff, 10, 1, 0, math.MaxInt}, 429496729, 5},
		{Div{0x12345678, 0, 0, 0, 32}, 0xffffffff, 0x12345678},
		{Div{0x12345678, 0, 0, 0x9abcdef0, 16}, 0xffff, 0xdef05678},
	} {
		if q, r := Run(c.x); q != c.q || r != c.r {
			t.Errorf("Run(%+v) = %#x, %#x, want %#x, %#x", c.x, q, r, c.q, c.r)
		}
	}
}

// quotients are what div, divu, rem and remu are of unbounded numbers.
func quotients(a, b uint32) map[int]uint32 {
	if b == 0 {
		return map[int]uint32{api.ODiv: 0xffffffff, api.ODivu: 0xffffffff, api.ORem: a, api.ORemu: a}
	}
	q, r := new(big.Int).QuoRem(big.NewInt(value(a)), big.NewInt(value(b)), new(big.Int))
	return map[int]uint32{api.ODiv: word(q), api.ODivu: a / b, api.ORem: word(r), api.ORemu: a % b}
}

func TestDo(t *testing.T) { // DV2: against unbounded numbers
	for _, a := range words() {
		for _, b := range words() {
			for op, want := range quotients(a, b) {
				if got, ok := Do(op, a, b); got != want || !ok {
					t.Fatalf("Do(%d, %#x, %#x) = %#x, %v, want %#x, true", op, a, b, got, ok, want)
				}
			}
		}
	}
}

func TestDoSmall(t *testing.T) { // DV2: all small numbers of both signs
	for a := -40; a <= 40; a++ {
		for b := -40; b <= 40; b++ {
			for op, want := range quotients(uint32(a), uint32(b)) {
				if got, ok := Do(op, uint32(a), uint32(b)); got != want || !ok {
					t.Fatalf("Do(%d, %d, %d) = %#x, %v, want %#x, true", op, a, b, got, ok, want)
				}
			}
		}
	}
}

func TestDoWritten(t *testing.T) { // DV2: the four results, written out
	for _, c := range []struct {
		a, b, div, divu, rem, remu uint32
	}{
		// A divisor of 0.
		{0, 0, 0xffffffff, 0xffffffff, 0, 0},
		{1, 0, 0xffffffff, 0xffffffff, 1, 1},
		{0x7fffffff, 0, 0xffffffff, 0xffffffff, 0x7fffffff, 0x7fffffff},
		{0x80000000, 0, 0xffffffff, 0xffffffff, 0x80000000, 0x80000000},
		{0xffffffff, 0, 0xffffffff, 0xffffffff, 0xffffffff, 0xffffffff},
		// The smallest number, by -1 and by others.
		{0x80000000, 0xffffffff, 0x80000000, 0, 0, 0x80000000},
		{0x80000000, 1, 0x80000000, 0x80000000, 0, 0},
		{0x80000000, 2, 0xc0000000, 0x40000000, 0, 0},
		{0x80000000, 0x80000000, 1, 1, 0, 0},
		{0x80000000, 0x7fffffff, 0xffffffff, 1, 0xffffffff, 1},
		{0x80000000, 0x80000001, 1, 0, 0xffffffff, 0x80000000},
		{0x80000001, 0xffffffff, 0x7fffffff, 0, 0, 0x80000001},
		{0x7fffffff, 0x80000000, 0, 0, 0x7fffffff, 0x7fffffff},
		{0x7fffffff, 0xffffffff, 0x80000001, 0, 0, 0x7fffffff},
		{1, 0x80000000, 0, 0, 1, 1},
		{0xffffffff, 0x80000000, 0, 1, 0xffffffff, 0x7fffffff},
		{0xffffffff, 0xffffffff, 1, 1, 0, 0},
		// The four pairs of signs of 7 and 2, and what is smaller than its divisor.
		{7, 2, 3, 3, 1, 1},
		{0xfffffff9, 2, 0xfffffffd, 0x7ffffffc, 0xffffffff, 1},
		{7, 0xfffffffe, 0xfffffffd, 0, 1, 7},
		{0xfffffff9, 0xfffffffe, 3, 0, 0xffffffff, 0xfffffff9},
		{0xfffffffe, 7, 0, 0x24924924, 0xfffffffe, 2},
		{2, 0xfffffff9, 0, 0, 2, 2},
		{0, 0xffffffff, 0, 0, 0, 0},
		// Divided without a remainder, with differing signs.
		{6, 0xfffffffd, 0xfffffffe, 0, 0, 6},
		{0xfffffffa, 3, 0xfffffffe, 0x55555553, 0, 1},
	} {
		for _, d := range []struct {
			op   int
			want uint32
		}{{api.ODiv, c.div}, {api.ODivu, c.divu}, {api.ORem, c.rem}, {api.ORemu, c.remu}} {
			if got, ok := Do(d.op, c.a, c.b); got != d.want || !ok {
				t.Errorf("Do(%d, %#x, %#x) = %#x, %v, want %#x, true", d.op, c.a, c.b, got, ok, d.want)
			}
		}
	}
}

func TestDoOthers(t *testing.T) { // DV2: any other number, some of them equal to an operation's modulo 2^8, 2^16 or 2^32
	if api.ODiv != 14 || api.ODivu != 15 || api.ORem != 16 || api.ORemu != 17 {
		t.Fatalf("the operations have the numbers %d, %d, %d, %d", api.ODiv, api.ODivu, api.ORem, api.ORemu)
	}
	others := []int{math.MinInt, math.MinInt + 1, math.MinInt32, math.MaxInt32, math.MaxInt - 1, math.MaxInt}
	for op := range 300 {
		others = append(others, -op-1)
		if op < 14 || op > 17 {
			others = append(others, op)
		}
	}
	for op := range 64 {
		others = append(others, op+1<<8, op+1<<16, op+1<<32, op-1<<32, op+math.MinInt, math.MaxInt-op)
	}
	for _, op := range others {
		for _, a := range edges() {
			for _, b := range edges() {
				if v, ok := Do(op, a, b); v != 0 || ok {
					t.Fatalf("Do(%d, %#x, %#x) = %#x, %v, want 0, false", op, a, b, v, ok)
				}
			}
		}
	}
}

// result is Do at an operation that has a result.
func result(t *testing.T, op int, a, b uint32) uint32 {
	v, ok := Do(op, a, b)
	if !ok {
		t.Fatalf("Do(%d, %#x, %#x) has no result", op, a, b)
	}
	return v
}

func TestUnsigned(t *testing.T) { // DV3: the dividend out of quotient and remainder, and the size of the remainder
	for _, a := range words() {
		for _, b := range words() {
			q, r := Run(New(a, b))
			if q != result(t, api.ODivu, a, b) || r != result(t, api.ORemu, a, b) {
				t.Fatalf("%#x by %#x: Run = %#x, %#x, not what Do returns", a, b, q, r)
			}
			if b == 0 && (q != 0xffffffff || r != a) {
				t.Fatalf("%#x by 0: %#x, %#x", a, q, r)
			}
			if b != 0 && (uint64(q)*uint64(b)+uint64(r) != uint64(a) || r >= b) {
				t.Fatalf("%#x by %#x: %#x, %#x", a, b, q, r)
			}
		}
	}
}

func TestSigned(t *testing.T) { // DV3: the dividend out of quotient and remainder, and the size and the sign of the remainder
	for _, a := range words() {
		for _, b := range words() {
			q, r := result(t, api.ODiv, a, b), result(t, api.ORem, a, b)
			if q*b+r != a {
				t.Fatalf("%#x by %#x: %#x, %#x do not give the dividend", a, b, q, r)
			}
			if b == 0 {
				continue
			}
			rest, size := new(big.Int).Abs(big.NewInt(value(r))), new(big.Int).Abs(big.NewInt(value(b)))
			if rest.Cmp(size) >= 0 {
				t.Fatalf("%#x by %#x: the remainder %#x is too great", a, b, r)
			}
			if r != 0 && (value(r) < 0) != (value(a) < 0) {
				t.Fatalf("%#x by %#x: the remainder %#x has the wrong sign", a, b, r)
			}
		}
	}
}

func TestStepsThenRun(t *testing.T) { // DV3: every number of steps before Run, more than there are among them
	for _, a := range words() {
		for _, b := range few() {
			q, r := Run(New(a, b))
			x := New(a, b)
			for k := range 40 {
				if left := max(0, 32-k); x.N != a || x.D != b || x.Left != left {
					t.Fatalf("%#x by %#x after %d steps: %+v", a, b, k, x)
				}
				if q1, r1 := Run(x); q1 != q || r1 != r {
					t.Fatalf("%#x by %#x after %d steps: Run = %#x, %#x, want %#x, %#x", a, b, k, q1, r1, q, r)
				}
				x = Step(x)
			}
			if x.Q != q || x.R != r {
				t.Fatalf("%#x by %#x after 40 steps: %+v, want %#x, %#x", a, b, x, q, r)
			}
		}
	}
}

func TestStepsThenRunOfAny(t *testing.T) { // DV3: the same at divisions that no New made
	for _, left := range lefts() {
		for _, a := range few() {
			for _, b := range few() {
				x := Div{a, b, 0x9abcdef1, ^b, left}
				q, r := Run(x)
				for k := range 35 {
					if q1, r1 := Run(x); q1 != q || r1 != r {
						t.Fatalf("%+v after %d steps: Run = %#x, %#x, want %#x, %#x", x, k, q1, r1, q, r)
					}
					x = Step(x)
				}
			}
		}
	}
}

func TestPartialQuotient(t *testing.T) { // DV1, DV3: after each step, what the leading bits of the dividend give
	for _, a := range words() {
		for _, b := range words() {
			x := New(a, b)
			for k := range 33 {
				lead := uint64(a) >> (32 - k)
				q, r := uint64(1)<<k-1, lead
				if b != 0 {
					q, r = lead/uint64(b), lead%uint64(b)
				}
				if x != (Div{a, b, uint32(q), uint32(r), 32 - k}) {
					t.Fatalf("%#x by %#x after %d steps: %+v, want Q %#x and R %#x", a, b, k, x, q, r)
				}
				x = Step(x)
			}
		}
	}
}

func TestExamples(t *testing.T) {
	x := New(7, 2)
	for range 32 {
		x = Step(x)
	}
	if x != (Div{7, 2, 3, 1, 0}) {
		t.Errorf("New(7, 2) after 32 steps: %+v", x)
	}
	if v, ok := Do(api.ODivu, 5, 0); v != 4294967295 || !ok {
		t.Errorf("Do(ODivu, 5, 0) = %d, %v", v, ok)
	}
	if v, ok := Do(api.ORem, 0xfffffff9, 2); v != 4294967295 || !ok {
		t.Errorf("Do(ORem, -7, 2) = %d, %v", v, ok)
	}
}
