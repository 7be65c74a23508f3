package csr

import (
	"math"
	"testing"

	"cotterel/api"
)

func TestExamples(t *testing.T) { // CQ1, CQ2, CQ3: the chapter's examples
	if got := Masked(api.CRoot); got != 4294967232 {
		t.Errorf("Masked: %d", got)
	}
	a, cause := Write(inKernel(), api.CEnable, 15)
	if a.C[api.CEnable] != 7 || cause != api.TNone {
		t.Errorf("Write: %v, %d", a, cause)
	}
	a = Count(api.Arch{C: [12]uint32{api.CTimer: 5, api.CCount: 4}})
	if want := (api.Arch{C: [12]uint32{api.CTimer: 5, api.CCount: 5, api.CPend: api.LineTimer}}); a != want {
		t.Errorf("Count: %v", a)
	}
}

func TestKernel(t *testing.T) { // CQ1: the bit of kernel mode alone, with others, and the others without it
	for status, want := range map[uint32]bool{
		0: false, 1: true, 2: false, 3: true, 4: false, 5: true, 8: false, 16: false, 17: true, 32: false, 33: true, 62: false, 63: true, 64: false, 65: true, 126: false, 127: true,
		1 << 31: false, 1<<31 + 1: true, 0xfffffffe: false, 0xffffffff: true, 0xffffffc0: false, 0xffffffc1: true, 0xfffffffa: false, 0x100: false, 0x101: true, 0x10000: false,
	} {
		if got := Kernel(with(api.Arch{}, api.CStatus, status)); got != want {
			t.Errorf("Kernel with status %#x: %v", status, got)
		}
		for _, kernel := range []bool{false, true} { // nothing else decides
			if got := Kernel(with(full(kernel), api.CStatus, status)); got != want {
				t.Errorf("Kernel with status %#x and all else: %v", status, got)
			}
		}
	}
	for n := 1; n < api.Csrs; n++ {
		if Kernel(with(api.Arch{}, n, math.MaxUint32)) || !Kernel(with(inKernel(), n, math.MaxUint32)) {
			t.Errorf("Kernel hangs on register %d", n)
		}
	}
}

func TestMasked(t *testing.T) { // CQ1: each register's bits
	for n, want := range []uint32{0x3f, 0x1f, 0xffffffff, 0xffffffff, 0xffffffff, 0xffffffc0, 0xffffffff, 0xffffffff, 0xffffffff, 7, 7, 0xffffffff} {
		if got := Masked(n); got != want || wantMasked(n) != want {
			t.Errorf("Masked of %d: %#x", n, got)
		}
	}
	for _, n := range outside() {
		if got := Masked(n); got != 0 {
			t.Errorf("Masked of %d: %#x", n, got)
		}
	}
	for n := -70000; n <= 70000; n++ {
		if got, want := Masked(n), wantMasked(n); got != want {
			t.Errorf("Masked of %d: %#x", n, got)
		}
	}
}

func TestRead(t *testing.T) { // CQ2: contents and causes written out
	user, kernel := full(false), full(true)
	for _, c := range []struct {
		a     api.Arch
		n     int
		want  uint32
		cause int
	}{
		{kernel, 0, 0xf8765431, 0}, {kernel, 1, 0xf7530eca, 0}, {kernel, 2, 0xf62fc963, 0}, {kernel, 3, 0xf50c83fc, 0}, {kernel, 4, 0xf3e93e95, 0}, {kernel, 5, 0xf2c5f92e, 0}, {kernel, 6, 0xf1a2b3c7, 0}, {kernel, 7, 0xf07f6e60, 0}, {kernel, 8, 0xef5c28f9, 0}, {kernel, 9, 0xee38e392, 0}, {kernel, 10, 0xed159e2b, 0}, {kernel, 11, 0xebf258c4, 0},
		{user, 0, 0, 8}, {user, 1, 0, 8}, {user, 2, 0, 8}, {user, 3, 0, 8}, {user, 4, 0, 8}, {user, 5, 0, 8}, {user, 6, 0, 8}, {user, 7, 0xf07f6e60, 0}, {user, 8, 0, 8}, {user, 9, 0, 8}, {user, 10, 0, 8}, {user, 11, 0, 8},
		{kernel, -1, 0, 2}, {kernel, 12, 0, 2}, {kernel, 13, 0, 2}, {kernel, 15, 0, 2}, {kernel, 16, 0, 2}, {kernel, 23, 0, 2}, {kernel, 32, 0, 2}, {kernel, 39, 0, 2}, {kernel, -7, 0, 2}, {kernel, math.MaxInt, 0, 2}, {kernel, math.MinInt, 0, 2}, {kernel, 1<<32 + 7, 0, 2}, {kernel, 1 << 32, 0, 2},
		{user, -1, 0, 8}, {user, 12, 0, 8}, {user, 13, 0, 8}, {user, 15, 0, 8}, {user, 16, 0, 8}, {user, 23, 0, 8}, {user, 32, 0, 8}, {user, 39, 0, 8}, {user, -7, 0, 8}, {user, math.MaxInt, 0, 8}, {user, math.MinInt, 0, 8}, {user, 1<<32 + 7, 0, 8}, {user, 1 << 32, 0, 8},
		{with(kernel, api.CRoot, 63), api.CRoot, 63, 0}, {with(kernel, api.CPend, math.MaxUint32), api.CPend, math.MaxUint32, 0}, {with(kernel, api.CEnable, 8), api.CEnable, 8, 0}, {with(kernel, api.CCause, 32), api.CCause, 32, 0}, {with(kernel, api.CStatus, 65), api.CStatus, 65, 0}, {with(kernel, api.CStatus, math.MaxUint32), api.CStatus, math.MaxUint32, 0},
		{api.Arch{}, 0, 0, 8}, {api.Arch{}, 7, 0, 0}, {api.Arch{}, 12, 0, 8}, {inKernel(), 0, 1, 0}, {inKernel(), 1, 0, 0}, {inKernel(), 12, 0, 2}, {with(user, api.CCount, math.MaxUint32), api.CCount, math.MaxUint32, 0}, {with(user, api.CStatus, 0xfffffffe), api.CStatus, 0, 8},
	} {
		if got, cause := Read(c.a, c.n); got != c.want || cause != c.cause {
			t.Errorf("Read of register %d with status %#x: %#x, %d, want %#x, %d", c.n, c.a.C[0], got, cause, c.want, c.cause)
		}
	}
}

func TestWrite(t *testing.T) { // CQ2: contents written out, all else as it was
	for n, want := range []struct{ ones, some uint32 }{
		{0x3f, 0x2d}, {0x1f, 0x0d}, {0xffffffff, 0x9abcdeed}, {0xffffffff, 0x9abcdeed}, {0xffffffff, 0x9abcdeed}, {0xffffffc0, 0x9abcdec0}, {0xffffffff, 0x9abcdeed}, {0xffffffff, 0x9abcdeed}, {0xffffffff, 0x9abcdeed}, {7, 5}, {7, 5}, {0xffffffff, 0x9abcdeed},
	} {
		for _, a := range []api.Arch{inKernel(), full(true)} {
			for v, want := range map[uint32]uint32{0: 0, math.MaxUint32: want.ones, 0x9abcdeed: want.some} {
				got, cause := Write(a, n, v)
				if got != with(a, n, want) || cause != api.TNone {
					t.Errorf("Write of %#x to register %d: %v, %d", v, n, got, cause)
				}
			}
		}
	}
}

func TestWriteRefused(t *testing.T) { // CQ2: the zero core beside each cause, and that of user mode first
	for _, user := range []api.Arch{{}, full(false), with(full(false), api.CStatus, 0xfffffffe)} {
		for n := range api.Csrs { // the counter too
			if got, cause := Write(user, n, math.MaxUint32); got != (api.Arch{}) || cause != 8 {
				t.Errorf("Write of register %d: %v, %d", n, got, cause)
			}
		}
		for _, n := range outside() {
			if got, cause := Write(user, n, 1); got != (api.Arch{}) || cause != 8 {
				t.Errorf("Write of register %d: %v, %d", n, got, cause)
			}
		}
	}
	for _, kernel := range []api.Arch{inKernel(), full(true), with(full(true), api.CStatus, math.MaxUint32)} {
		for _, n := range outside() {
			if got, cause := Write(kernel, n, 1); got != (api.Arch{}) || cause != 2 {
				t.Errorf("Write of register %d: %v, %d", n, got, cause)
			}
		}
	}
}

func TestOrder(t *testing.T) { // CQ2: user mode is told before a number that is wrong, whatever else stands in the core
	for _, n := range append(outside(), 0, 1, 5, 11) {
		for _, status := range numbers() {
			a := with(full(false), api.CStatus, status)
			v, read := Read(a, n)
			b, write := Write(a, n, 5)
			want := 0
			switch {
			case status%2 == 0:
				want = 8
			case n < 0 || n > 11:
				want = 2
			}
			if read != want || write != want || (want != 0 && (v != 0 || b != api.Arch{})) {
				t.Fatalf("register %d, status %#x: %#x, %d, %v, %d", n, status, v, read, b, write)
			}
		}
	}
}

func TestCount(t *testing.T) { // CQ3: counters, timers and lines written out
	for _, c := range []struct{ count, timer, pend, newCount, newPend uint32 }{
		{0, 0, 0, 1, 0}, {1, 0, 0, 2, 0}, {41, 0, 3, 42, 3}, {0xffffffff, 0, 0, 0, 0}, {0xfffffffe, 0, 0, 0xffffffff, 0}, {0x7fffffff, 0, 0, 0x80000000, 0}, {0x80000000, 0, 0, 0x80000001, 0}, {255, 0, 0, 256, 0}, {65535, 0, 0, 65536, 0},
		{4, 4, 0, 5, 4}, {4, 5, 0, 5, 4}, {4, 6, 0, 5, 0}, {4, 7, 0, 5, 0}, {4, 1, 0, 5, 4}, {4, 0xffffffff, 0, 5, 0}, {0, 1, 0, 1, 4}, {0, 2, 0, 1, 0}, {1, 1, 0, 2, 4},
		{0xffffffff, 1, 0, 0, 0}, {0xffffffff, 0xffffffff, 0, 0, 0}, {0xffffffff, 0x80000000, 0, 0, 0}, {0xfffffffe, 0xffffffff, 0, 0xffffffff, 4}, {0xfffffffd, 0xffffffff, 0, 0xfffffffe, 0}, {0xfffffffe, 1, 0, 0xffffffff, 4}, {0xfffffffe, 0xfffffffe, 0, 0xffffffff, 4},
		{0x7fffffff, 5, 0, 0x80000000, 4}, {0x7fffffff, 0x80000000, 0, 0x80000000, 4}, {0x7fffffff, 0x80000001, 0, 0x80000000, 0}, {0x80000000, 0x7fffffff, 0, 0x80000001, 4}, {0x7ffffffe, 0x80000000, 0, 0x7fffffff, 0}, {5, 0x80000000, 0, 6, 0}, {0x1000004, 6, 0, 0x1000005, 4}, {4, 0x1000005, 0, 5, 0},
		{4, 5, 4, 5, 4}, {4, 5, 1, 5, 5}, {4, 5, 2, 5, 6}, {4, 5, 3, 5, 7}, {4, 5, 7, 5, 7}, {4, 6, 4, 5, 4}, {4, 6, 7, 5, 7}, {4, 6, 1, 5, 1}, {4, 0, 4, 5, 4}, {4, 0, 7, 5, 7}, {0xffffffff, 1, 4, 0, 4}, {0xffffffff, 0, 7, 0, 7},
		{4, 5, 8, 5, 12}, {4, 5, 0xfffffff8, 5, 0xfffffffc}, {4, 5, 0xffffffff, 5, 0xffffffff}, {4, 5, 0xfffffffb, 5, 0xffffffff}, {4, 6, 8, 5, 8}, {4, 6, 0xfffffff8, 5, 0xfffffff8}, {4, 0, 0xffffffff, 5, 0xffffffff}, {0xffffffff, 7, 0x80000000, 0, 0x80000000},
	} {
		for _, a := range []api.Arch{{}, full(false), full(true)} { // whatever the mode is, and halted or not
			a = with(with(with(a, api.CCount, c.count), api.CTimer, c.timer), api.CPend, c.pend)
			want := with(with(a, api.CCount, c.newCount), api.CPend, c.newPend)
			if got := Count(a); got != want {
				t.Errorf("Count of %v: %v, want %v", a.C, got.C, want.C)
			}
		}
	}
}

func TestCountAround(t *testing.T) { // CQ3: counters just below and above each power of two, and timers around the new count
	for _, count := range numbers() {
		for _, timer := range append(numbers(), count-2, count-1, count, count+1, count+2, count+3) {
			for _, pend := range []uint32{0, 3, 4, 7, 8, 0xfffffff8, 0xffffffff} {
				a := with(with(with(full(true), api.CCount, count), api.CTimer, timer), api.CPend, pend)
				if got := Count(a); parts(got) != wantCount(parts(a)) {
					t.Fatalf("Count with counter %#x, timer %#x, lines %#x: %#x", count, timer, pend, got.C)
				}
			}
		}
	}
}

func TestCountOn(t *testing.T) { // CQ3: from one count to the next the timer's line comes at its time and stays
	a := with(with(inKernel(), api.CTimer, 3), api.CCount, math.MaxUint32-1)
	for k, want := range []struct{ count, pend uint32 }{{0xffffffff, 4}, {0, 4}, {1, 4}, {2, 4}, {3, 4}, {4, 4}} {
		if a = Count(a); a.C[api.CCount] != want.count || a.C[api.CPend] != want.pend {
			t.Errorf("Count number %d: %v", k, a.C)
		}
	}
	a = with(with(inKernel(), api.CTimer, 3), api.CCount, math.MaxUint32)
	for k, want := range []struct{ count, pend uint32 }{{0, 0}, {1, 0}, {2, 0}, {3, 4}, {4, 4}, {5, 4}} {
		if a = Count(a); a.C[api.CCount] != want.count || a.C[api.CPend] != want.pend {
			t.Errorf("Count number %d: %v", k, a.C)
		}
	}
	a = with(a, api.CPend, 0) // a line that was cleared comes again with the next count
	if a = Count(a); a.C[api.CCount] != 6 || a.C[api.CPend] != api.LineTimer {
		t.Errorf("Count: %v", a.C)
	}
}

func TestRaise(t *testing.T) { // CQ3: lines written out
	for _, c := range []struct{ pend, lines, want uint32 }{
		{0, 0, 0}, {0, 1, 1}, {0, 2, 2}, {0, 3, 3}, {0, 4, 4}, {0, 5, 5}, {0, 6, 6}, {0, 7, 7},
		{0, 8, 0}, {0, 9, 1}, {0, 10, 2}, {0, 12, 4}, {0, 15, 7}, {0, 16, 0}, {0, 0xfffffff8, 0}, {0, 0xffffffff, 7}, {0, 1 << 31, 0}, {0, 1<<31 + 4, 4}, {0, 256, 0}, {0, 0x10000, 0}, {0, 0x12345678, 0}, {0, 0x87654321, 1},
		{1, 0, 1}, {2, 0, 2}, {4, 0, 4}, {7, 0, 7}, {1, 1, 1}, {2, 2, 2}, {4, 4, 4}, {7, 7, 7}, {1, 2, 3}, {1, 4, 5}, {2, 1, 3}, {2, 4, 6}, {4, 1, 5}, {4, 2, 6}, {4, 10, 6}, {3, 6, 7}, {5, 3, 7}, {6, 5, 7}, {7, 8, 7}, {7, 1, 7},
		{8, 0, 8}, {8, 1, 9}, {8, 8, 8}, {8, 15, 15}, {0xfffffff8, 0, 0xfffffff8}, {0xfffffff8, 0xffffffff, 0xffffffff}, {0xffffffff, 0, 0xffffffff}, {0xffffffff, 7, 0xffffffff}, {0x80000000, 0x40000002, 0x80000002}, {16, 24, 16}, {0xfffffff9, 2, 0xfffffffb},
	} {
		for _, a := range []api.Arch{{}, inKernel(), full(false), full(true), with(full(true), api.CEnable, 0)} { // enabled or not
			a = with(a, api.CPend, c.pend)
			if got := Raise(a, c.lines); got != with(a, api.CPend, c.want) {
				t.Errorf("Raise of %#x with lines %#x: %#x", c.lines, c.pend, got.C)
			}
		}
	}
}

func TestReadBack(t *testing.T) { // CQ4: what is written is read back without the bits that a register has not, and nothing else changes
	for _, a := range []api.Arch{inKernel(), full(true), with(full(true), api.CStatus, math.MaxUint32)} {
		for n := range api.Csrs {
			for _, v := range numbers() {
				b, cause := Write(a, n, v)
				if cause != api.TNone {
					t.Fatalf("Write of %#x to register %d: %d", v, n, cause)
				}
				kept := uint32(registers[n](uint64(v)))
				for k := range api.Csrs { // what is kept, in n, and what was there, elsewhere
					want := a.C[k]
					if k == n {
						want = kept
					}
					cause := api.TNone
					if n == api.CStatus && v%2 == 0 && k != api.CCount { // it left kernel mode
						want, cause = 0, api.TPriv
					}
					if got, c := Read(b, k); got != want || c != cause {
						t.Fatalf("Read of register %d after a write of %#x to %d: %#x, %d, want %#x, %d", k, v, n, got, c, want, cause)
					}
				}
				if b != with(a, n, kept) {
					t.Fatalf("Write of %#x to register %d: %v", v, n, b)
				}
			}
		}
	}
}

func TestWriteAgain(t *testing.T) { // CQ4: what was read back is written again without a change
	for n := range api.Csrs {
		for _, v := range numbers() {
			if n == api.CStatus {
				v |= api.SKernel
			}
			b, _ := Write(full(true), n, v)
			back, _ := Read(b, n)
			if c, cause := Write(b, n, back); c != b || cause != api.TNone {
				t.Fatalf("Write of %#x to register %d, and again: %v, %d", v, n, c, cause)
			}
		}
	}
}

func TestOwn(t *testing.T) { // CQ4: registers that only have their own bits keep this, from the zero core on
	x := uint64(11)
	for range 2000 {
		a := inKernel()
		for range 40 {
			switch choose(&x, 4) {
			case 0:
				a = Count(a)
			case 1:
				a = Raise(a, word(&x))
			default:
				if b, cause := Write(a, anyNumber(&x), word(&x)|uint32(choose(&x, 2))); cause == api.TNone {
					a = b
				}
			}
			if !own(a) {
				t.Fatalf("bits that registers have not: %#x", a.C)
			}
			for k, v := range a.C {
				if v&^Masked(k) != 0 {
					t.Fatalf("register %d has %#x", k, v)
				}
			}
		}
	}
}

func TestPending(t *testing.T) { // CQ4: no line is cleared by Count or Raise
	for pend := range uint32(32) {
		for _, v := range numbers() {
			a := with(with(with(full(false), api.CPend, pend), api.CCount, v), api.CTimer, v)
			for _, b := range []api.Arch{Count(a), Count(Count(a)), Raise(a, v), Raise(a, ^v), Raise(Count(a), v), Count(Raise(a, 0))} {
				if b.C[api.CPend]&pend != pend {
					t.Fatalf("lines %#x, then %#x", pend, b.C[api.CPend])
				}
			}
		}
	}
}

func TestAll(t *testing.T) { // CQ1 to CQ4: each register and each wrong number in both modes against the model
	ns := outside()
	for n := range api.Csrs {
		ns = append(ns, n)
	}
	for _, a := range []api.Arch{{}, inKernel(), full(false), full(true), with(full(true), api.CStatus, math.MaxUint32), with(full(false), api.CStatus, math.MaxUint32-1)} {
		for _, n := range ns {
			for _, v := range numbers() {
				check(t, a, n, v)
			}
		}
	}
}

func TestAny(t *testing.T) { // CQ1 to CQ4: cores, registers and numbers without a rule against the model
	x := uint64(1)
	for range 30000 {
		check(t, anyCore(&x), anyNumber(&x), word(&x))
	}
}

func TestAgain(t *testing.T) { // CQ1 to CQ4: what was called before does not matter
	for _, n := range []int{0, 5, 7, 10, 12} {
		a, u := full(true), full(false)
		mask, kernel := Masked(n), Kernel(a)
		read, cause := Read(a, n)
		written, _ := Write(a, n, 77)
		counted, raised := Count(a), Raise(a, 5)
		for k := range api.Csrs { // other calls between
			Write(a, k, uint32(k))
			Write(u, k, 1)
			Read(u, k)
			Count(Raise(u, uint32(k)))
			Masked(k)
		}
		again, againCause := Read(a, n)
		rewritten, _ := Write(a, n, 77)
		if Masked(n) != mask || Kernel(a) != kernel || again != read || againCause != cause || rewritten != written || Count(a) != counted || Raise(a, 5) != raised || a != full(true) || u != full(false) {
			t.Errorf("register %d: other answers the second time", n)
		}
	}
}
