package trap

import (
	"math"
	"testing"

	"cotterel/api"
)

func TestExamples(t *testing.T) { // TP1, TP3: the chapter's examples
	a := with(with(api.Arch{}, api.CStatus, api.SEnable), api.CVec, 64)
	a = Take(a, api.TCall, 0, 12)
	if want := (api.Arch{PC: 64, C: [12]uint32{api.CStatus: api.SKernel | api.SWasE, api.CCause: 7, api.CEpc: 12, api.CVec: 64}}); a != want {
		t.Errorf("Take: %v", a)
	}
	if got := Pending(with(with(api.Arch{}, api.CPend, 6), api.CEnable, 4)); got != api.TTimer {
		t.Errorf("Pending: %d", got)
	}
}

func TestTake(t *testing.T) { // TP1: a whole core written out, its registers, its halt and its other control registers as they were
	a := api.Arch{
		PC: 100, Halt: true,
		R: [16]uint32{20, 21, 22, 23, 24, 25, 26, 27, 28, 29, 30, 31, 32, 33, 34, 35},
		C: [12]uint32{0xffffff72, 41, 42, 43, 44, 45, 46, 47, 48, 49, 50, 51},
	}
	want := a
	want.PC = 44
	want.C[0], want.C[1], want.C[2], want.C[3] = 0xffffff79, 18, 7, 12
	if got := Take(a, api.TTimer, 7, 12); got != want {
		t.Errorf("Take: %v, want %v", got, want)
	}
	want = api.Arch{C: [12]uint32{1, 1, 2, 3}}
	if got := Take(api.Arch{}, 1, 2, 3); got != want {
		t.Errorf("Take of the zero core: %v, want %v", got, want)
	}
}

func TestTakeStatus(t *testing.T) { // TP1: mode and SEnable are kept in SWasK and SWasE, whatever stood there; the other bits stay
	for old, want := range map[uint32]uint32{
		0: 1, api.SKernel: 5, api.SEnable: 9, api.SKernel | api.SEnable: 13,
		api.SWasK: 1, api.SWasK | api.SKernel: 5, api.SWasK | api.SEnable: 9, api.SWasK | api.SKernel | api.SEnable: 13,
		api.SWasE: 1, api.SWasE | api.SKernel: 5, api.SWasE | api.SEnable: 9, api.SWasE | api.SKernel | api.SEnable: 13,
		api.SWasE | api.SWasK: 1, api.SWasE | api.SWasK | api.SKernel: 5, api.SWasE | api.SWasK | api.SEnable: 9, api.SWasE | api.SWasK | api.SKernel | api.SEnable: 13,
	} {
		for _, other := range []uint32{0, api.SPaged, api.SSingle, api.SPaged | api.SSingle, 1 << 6, 1 << 7, 1 << 8, 1 << 16, 1 << 31, 0xffffffc0, 0xfffffff0, 0x5a5a5a50, 0xa5a5a5a0} {
			a := full(old | other)
			if got := Take(a, 3, 4, 5).C[api.CStatus]; got != want|other {
				t.Errorf("Take with status %#x: %#x, want %#x", old|other, got, want|other)
			}
			if got := Take(with(api.Arch{}, api.CStatus, old|other), 3, 4, 5).C[api.CStatus]; got != want|other {
				t.Errorf("Take with nothing but status %#x: %#x, want %#x", old|other, got, want|other)
			}
		}
	}
}

func TestTakeCause(t *testing.T) { // TP1: the lowest five bits of a cause, whatever it is
	for number, want := range map[int]uint32{
		api.TNone: 0, api.TFetch: 1, api.TIllegal: 2, api.TStop: 3, api.TLoad: 4, api.TAlign: 5, api.TStore: 6, api.TCall: 7, api.TPriv: 8, api.TBus: 9, api.TSingle: 10, api.TOut: 16, api.TSend: 17, api.TTimer: 18,
		11: 11, 15: 15, 19: 19, 24: 24, 30: 30, 31: 31, 32: 0, 33: 1, 50: 18, 63: 31, 64: 0, 100: 4, 255: 31, 256: 0, 1000: 8, 65536: 0, 65543: 7, 1<<31 + 9: 9, 1<<32 + 9: 9, 1 << 32: 0, 1<<40 - 1: 31, 1<<62 + 16: 16,
		-1: 31, -2: 30, -14: 18, -16: 16, -31: 1, -32: 0, -33: 31, -64: 0, -100: 28, -1 << 32: 0, -1<<32 + 7: 7, math.MaxInt: 31, math.MaxInt - 13: 18, math.MinInt: 0, math.MinInt + 10: 10, math.MaxInt32: 31, math.MinInt32: 0, math.MaxUint32: 31, math.MaxUint32 + 3: 2,
	} {
		for _, a := range []api.Arch{{}, full(0), full(1), with(full(2), api.CCause, math.MaxUint32), with(full(0), api.CCause, 0)} {
			got := Take(a, number, 4, 5)
			if got.C[api.CCause] != want || got != with(Take(a, 0, 4, 5), api.CCause, want) {
				t.Errorf("Take of cause %d: %v, want %d", number, got, want)
			}
		}
	}
	for number := -5000; number <= 5000; number++ {
		check(t, full(0x32), number, 4, 5)
	}
}

func TestTakeNumbers(t *testing.T) { // TP1: val and epc are kept as they are, and PC is CVec, whatever they are
	for _, v := range append(numbers(), 0xf8765431, 0xa1b2c3d4) {
		for _, w := range []uint32{0, 1, 2, 3, 64, 0x7fffffff, 0x80000000, 0xfffffffe, 0xffffffff, v, ^v, v + 1} {
			a := full(0x12)
			want := at(with(with(with(with(a, api.CStatus, 0x19), api.CCause, 4), api.CVal, v), api.CEpc, w), a.C[api.CVec])
			if got := Take(a, 4, v, w); got != want {
				t.Fatalf("Take with val %#x, epc %#x: %v, want %v", v, w, got, want)
			}
			for _, n := range []int{api.CStatus, api.CCause, api.CVal, api.CEpc, api.CEnable, api.CPend, api.CStop, api.CRoot} { // what else stands there does not matter
				if got := Take(with(with(a, n, w), api.CVec, v), 4, 5, 6); got.PC != v || got.C[api.CVec] != v || got.C[api.CVal] != 5 || got.C[api.CEpc] != 6 {
					t.Fatalf("Take with CVec %#x, register %d %#x: %v", v, n, w, got)
				}
			}
		}
	}
}

func TestReturn(t *testing.T) { // TP2: a whole core written out, its registers, its halt and its other control registers as they were
	a := api.Arch{
		PC: 100, Halt: true,
		R: [16]uint32{20, 21, 22, 23, 24, 25, 26, 27, 28, 29, 30, 31, 32, 33, 34, 35},
		C: [12]uint32{0xffffff79, 41, 42, 43, 44, 45, 46, 47, 48, 49, 50, 51},
	}
	want := a
	want.PC, want.C[0] = 43, 0xffffff7a
	if got, refused := Return(a); got != want || refused != api.TNone {
		t.Errorf("Return: %v, %d, want %v", got, refused, want)
	}
	want = api.Arch{}
	if got, refused := Return(with(api.Arch{}, api.CStatus, 1)); got != want || refused != api.TNone {
		t.Errorf("Return of a core with nothing but its mode: %v, %d", got, refused)
	}
}

func TestReturnStatus(t *testing.T) { // TP2: mode and SEnable are brought back from SWasK and SWasE, which stay, as do the other bits
	for old, want := range map[uint32]uint32{
		api.SKernel: 0, api.SKernel | api.SEnable: 0,
		api.SKernel | api.SWasK: 5, api.SKernel | api.SEnable | api.SWasK: 5,
		api.SKernel | api.SWasE: 10, api.SKernel | api.SEnable | api.SWasE: 10,
		api.SKernel | api.SWasK | api.SWasE: 15, api.SKernel | api.SEnable | api.SWasK | api.SWasE: 15,
	} {
		for _, other := range []uint32{0, api.SPaged, api.SSingle, api.SPaged | api.SSingle, 1 << 6, 1 << 7, 1 << 8, 1 << 16, 1 << 31, 0xffffffc0, 0xfffffff0, 0x5a5a5a50, 0xa5a5a5a0} {
			for _, a := range []api.Arch{full(old | other), with(api.Arch{}, api.CStatus, old|other)} {
				got, refused := Return(a)
				if got != at(with(a, api.CStatus, want|other), a.C[api.CEpc]) || refused != 0 {
					t.Errorf("Return with status %#x: %v, %d, want status %#x", old|other, got, refused, want|other)
				}
			}
		}
	}
}

func TestReturnPlace(t *testing.T) { // TP2: PC is CEpc, whatever it is
	for _, v := range numbers() {
		for _, s := range []uint32{1, 5, 9, 0xffffffff} {
			a := with(full(s), api.CEpc, v)
			got, refused := Return(a)
			if got.PC != v || got.C[api.CEpc] != v || refused != api.TNone {
				t.Errorf("Return with CEpc %#x: %v, %d", v, got, refused)
			}
		}
	}
}

func TestReturnUser(t *testing.T) { // TP2: the zero core and TPriv in user mode, whatever else the core holds
	for _, s := range append(statuses(), numbers()...) {
		s &^= 1
		for _, a := range []api.Arch{full(s), with(api.Arch{}, api.CStatus, s), at(with(with(api.Arch{}, api.CStatus, s), api.CEpc, 12), 8)} {
			if got, refused := Return(a); got != (api.Arch{}) || refused != 8 {
				t.Fatalf("Return with status %#x: %v, %d", s, got, refused)
			}
		}
	}
	for n := 1; n < api.Csrs; n++ { // no other register makes a kernel
		if got, refused := Return(with(api.Arch{}, n, math.MaxUint32)); got != (api.Arch{}) || refused != 8 {
			t.Errorf("Return with register %d: %v, %d", n, got, refused)
		}
	}
}

func TestPending(t *testing.T) { // TP3: each set of lines that are pending, and each of lines that are enabled, written out
	first := [8]int{0, 16, 17, 16, 18, 16, 17, 16} // by the set of the lines that are open
	for pend := range uint32(8) {
		for enable := range uint32(8) {
			want := first[pend&enable]
			for _, above := range [][2]uint32{{0, 0}, {8, 8}, {8, 0}, {0, 8}, {16, 16}, {0x80000000, 0x80000000}, {0xfffffff8, 0xfffffff8}, {0x12345678, 0x87654320}, {256, 256}} {
				for _, halt := range []bool{false, true} {
					for s, comes := range map[uint32]bool{0: true, 2: true, 1: false, 3: true, 0x3c: true, 0x3e: true, 0x3d: false, 0x3f: true, 0xfffffffc: true, 0xfffffffe: true, 0xfffffffd: false, 0xffffffff: true} {
						a := with(with(full(s), api.CPend, pend|above[0]), api.CEnable, enable|above[1])
						a.Halt = halt
						want := want
						if !comes {
							want = 0
						}
						if got := Pending(a); got != want {
							t.Fatalf("Pending with status %#x, lines %#x, enabled %#x, halt %v: %d, want %d", s, a.C[10], a.C[9], halt, got, want)
						}
					}
				}
			}
		}
	}
}

func TestPendingAlone(t *testing.T) { // TP3: nothing but the three lines, the mode and SEnable decides
	for k := range 32 {
		for _, s := range []uint32{0, 1, 2, 3} {
			a := with(with(with(api.Arch{}, api.CStatus, s), api.CPend, 1<<k), api.CEnable, 1<<k)
			want := 0
			if k < 3 && s != 1 {
				want = 16 + k
			}
			if got := Pending(a); got != want {
				t.Errorf("Pending with line %d, status %d: %d, want %d", k, s, got, want)
			}
			if got := Pending(with(a, api.CPend, ^uint32(1<<k))); got != 0 {
				t.Errorf("Pending with all lines but %d, status %d: %d", k, s, got)
			}
			if got := Pending(with(a, api.CEnable, ^uint32(1<<k))); got != 0 {
				t.Errorf("Pending with all lines enabled but %d, status %d: %d", k, s, got)
			}
		}
	}
}

func TestStops(t *testing.T) { // TP4: breakpoints and places written out
	for _, c := range []struct {
		stop, pc uint32
		want     bool
	}{
		{1, 0, true}, {13, 12, true}, {5, 4, true}, {3, 2, true}, {7, 6, true}, {0x101, 0x100, true}, {0x4001, 0x4000, true}, {0x7fffffff, 0x7ffffffe, true}, {0x80000001, 0x80000000, true}, {0xfffffffd, 0xfffffffc, true}, {0xffffffff, 0xfffffffe, true},
		{0, 0, false}, {12, 12, false}, {4, 4, false}, {0x80000000, 0x80000000, false}, {0xfffffffe, 0xfffffffe, false}, {0xfffffffc, 0xfffffffc, false},
		{1, 1, false}, {13, 13, false}, {0xffffffff, 0xffffffff, false}, {0x80000001, 0x80000001, false}, {12, 13, false}, {0, 1, false}, {0xfffffffe, 0xffffffff, false},
		{1, 4, false}, {5, 0, false}, {13, 16, false}, {13, 8, false}, {13, 14, false}, {15, 12, false}, {0xfffffffd, 0, false}, {1, 0xfffffffe, false}, {0x1000d, 12, false}, {0x8000000d, 12, false}, {13, 0x8000000c, false}, {0xffffffff, 0, false}, {1, 0x80000000, false}, {1, 2, false}, {3, 0, false},
	} {
		for _, s := range statuses() {
			a := with(full(s), api.CStop, c.stop)
			if got, want := Stops(a, c.pc), c.want && s%2 == 0; got != want {
				t.Errorf("Stops with status %#x, breakpoint %#x, at %#x: %v, want %v", s, c.stop, c.pc, got, want)
			}
		}
		if got := Stops(api.Arch{C: [12]uint32{api.CStop: c.stop}}, c.pc); got != c.want {
			t.Errorf("Stops with nothing but breakpoint %#x, at %#x: %v, want %v", c.stop, c.pc, got, c.want)
		}
	}
}

func TestStopsBits(t *testing.T) { // TP4: each bit of a place counts, and PC does not
	for _, v := range numbers() {
		pc := v &^ 1
		a := at(with(full(0), api.CStop, pc|1), ^pc)
		if !Stops(a, pc) || Stops(a, pc|1) || Stops(with(a, api.CStop, pc), pc) || Stops(with(a, api.CStop, pc), pc|1) {
			t.Fatalf("Stops at %#x", pc)
		}
		for k := 1; k < 32; k++ {
			if Stops(a, pc^1<<k) || Stops(with(a, api.CStop, pc|1^1<<k), pc) || Stops(at(a, pc), pc^1<<k) {
				t.Fatalf("Stops at %#x with bit %d another", pc, k)
			}
		}
	}
}

func TestSingle(t *testing.T) { // TP4: in user mode with SSingle, whatever else the status holds
	for s, want := range map[uint32]bool{
		0: false, 1: false, 32: true, 33: false, 34: true, 35: false, 36: true, 40: true, 48: true, 46: true, 62: true, 63: false, 31: false, 30: false, 16: false, 64: false, 96: true, 97: false, 160: true, 1 << 31: false, 1<<31 + 32: true, 0xffffffc0: false, 0xffffffe0: true, 0xfffffffe: true, 0xffffffff: false, 0xffffffde: false, 0xffffffdf: false,
	} {
		for _, a := range []api.Arch{full(s), with(api.Arch{}, api.CStatus, s)} {
			if got := Single(a); got != want {
				t.Errorf("Single with status %#x: %v, want %v", s, got, want)
			}
		}
	}
	for n := 1; n < api.Csrs; n++ { // no other register decides
		if Single(with(api.Arch{}, n, math.MaxUint32)) || !Single(with(with(api.Arch{}, api.CStatus, 32), n, math.MaxUint32)) {
			t.Errorf("Single hangs on register %d", n)
		}
	}
}

func TestAfterTake(t *testing.T) { // TP5: after Take it is kernel mode, and no interrupt, no breakpoint and no single step comes
	for _, s := range append(statuses(), numbers()...) {
		for _, lines := range []uint32{1, 2, 4, 7, 0xffffffff} {
			for _, pc := range []uint32{0, 64, 0xfffffffc} {
				a := with(with(with(with(full(s), api.CPend, lines), api.CEnable, lines), api.CStop, pc|1), api.CVec, pc)
				b := Take(a, api.TCall, s, pc)
				if b.C[api.CStatus]&api.SKernel == 0 || Pending(b) != 0 || Stops(b, pc) || Single(b) {
					t.Fatalf("after Take with status %#x: %v, %d, %v, %v", s, b, Pending(b), Stops(b, pc), Single(b))
				}
			}
		}
		b := Take(full(s), api.TCall, 0, 0)
		for _, pc := range numbers() {
			if Stops(b, pc) || Stops(with(b, api.CStop, pc|1), pc) || Stops(with(b, api.CStop, pc), pc) {
				t.Fatalf("after Take with status %#x: a stop at %#x", s, pc)
			}
		}
	}
}

func TestBack(t *testing.T) { // TP5: a Return at once brings PC to epc, and mode and SEnable to what they were
	for _, s := range append(statuses(), numbers()...) {
		for _, v := range []uint32{0, 1, 12, 0x80000000, 0xfffffffc, 0xffffffff} {
			a := full(s)
			b := Take(a, int(s), v, ^v)
			c, refused := Return(b)
			if want := s&^0xc | s%4*4; refused != 0 || c != at(with(b, api.CStatus, want), ^v) {
				t.Fatalf("Take and Return with status %#x, epc %#x: %v, %d", s, ^v, c, refused)
			}
			if c.C[0]%2 != s%2 || c.C[0]/2%2 != s/2%2 || c.R != a.R || c.Halt != a.Halt {
				t.Fatalf("Take and Return with status %#x: %v", s, c)
			}
		}
	}
}

func TestNested(t *testing.T) { // TP5: of two traps the second's Return brings back kernel mode without interrupts, the first's state is lost
	a := with(full(api.SEnable|api.SPaged), api.CVec, 64)
	b := Take(Take(a, api.TCall, 1, 12), api.TLoad, 2, 68)
	if b.PC != 64 || b.C[api.CStatus] != api.SKernel|api.SWasK|api.SPaged || b.C[api.CCause] != api.TLoad || b.C[api.CVal] != 2 || b.C[api.CEpc] != 68 {
		t.Errorf("Take twice: %v", b)
	}
	c, refused := Return(b)
	if c.PC != 68 || c.C[api.CStatus] != api.SKernel|api.SWasK|api.SPaged || refused != api.TNone {
		t.Errorf("Return after two traps: %v, %d", c, refused)
	}
	if d, refused := Return(c); d != c || refused != api.TNone { // it returns to itself
		t.Errorf("Return again: %v, %d", d, refused)
	}
}

func TestKept(t *testing.T) { // TP5: registers, the halt and all control registers but those of the trap are never changed
	x := uint64(5)
	for range 3000 {
		a := anyCore(&x)
		for range 20 {
			b := Take(a, anyCause(&x), word(&x), word(&x))
			if choose(&x, 2) == 0 {
				if c, refused := Return(b); refused == api.TNone {
					b = c
				}
			}
			if b.R != a.R || b.Halt != a.Halt || [8]uint32(b.C[4:]) != [8]uint32(a.C[4:]) {
				t.Fatalf("%v, then %v", a, b)
			}
			if c, refused := Return(a); refused == api.TNone && (c.R != a.R || c.Halt != a.Halt || [11]uint32(c.C[1:]) != [11]uint32(a.C[1:])) {
				t.Fatalf("%v, after Return %v", a, c)
			}
			a = b
		}
	}
}

func TestAll(t *testing.T) { // TP1 to TP4: each status with each cause and with each number against the model
	for _, s := range statuses() {
		for k, number := range causes() {
			check(t, full(s), number, uint32(number), uint32(k))
		}
		for _, v := range numbers() {
			check(t, with(full(s), api.CStop, v^1), api.TStop, v, v)
		}
	}
}

func TestRegisters(t *testing.T) { // TP1 to TP4: each number in each control register, in both modes, against the model
	for _, s := range []uint32{0, 1, 2, 3, 12, 13, 32, 33, 0xffffffff, 0xfffffffe} {
		for n := range api.Csrs {
			for _, v := range numbers() {
				check(t, with(full(s), n, v), api.TBus, ^v, v&^1)
				check(t, with(with(api.Arch{PC: v}, api.CStatus, s), n, v), api.TTimer, v, v)
			}
		}
	}
}

func TestAny(t *testing.T) { // TP1 to TP4: cores, causes and numbers without a rule against the model
	x := uint64(1)
	count := make(map[any]int)
	for range 40000 {
		a := anyCore(&x)
		pc := anyPlace(&x, a)
		check(t, a, anyCause(&x), word(&x), pc)
		count[Pending(a)]++
		count[Stops(a, pc)]++
		if Single(a) {
			count["single"]++
		}
		if _, refused := Return(a); refused != 0 {
			count["refused"]++
		}
	}
	for _, k := range []any{0, 16, 17, 18, true, false, "single", "refused"} {
		if count[k] < 1000 {
			t.Errorf("%v: %d times", k, count[k])
		}
	}
}

func TestAgain(t *testing.T) { // TP1 to TP4: what was called before does not matter
	for _, s := range []uint32{0, 1, 2, 3, 32, 63, 0xffffffff} {
		a, b := full(s), with(with(with(full(s^3), api.CPend, 7), api.CEnable, 6), api.CStop, 9)
		taken, pending, stops, single := Take(a, 7, 8, 9), Pending(a), Stops(a, 8), Single(a)
		back, refused := Return(a)
		for k := range 20 { // other calls between
			Take(b, k, uint32(k), uint32(k))
			Return(b)
			Return(Take(b, -k, 1, 2))
			Pending(b)
			Stops(b, uint32(k))
			Single(b)
		}
		againBack, againRefused := Return(a)
		if Take(a, 7, 8, 9) != taken || Pending(a) != pending || Stops(a, 8) != stops || Single(a) != single || againBack != back || againRefused != refused || a != full(s) {
			t.Errorf("status %#x: other answers the second time", s)
		}
	}
}
